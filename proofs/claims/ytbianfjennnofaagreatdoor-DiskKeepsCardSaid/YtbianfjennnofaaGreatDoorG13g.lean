/- WALKS OF LAYER 13, SEVENTH PART: a new Dir; a node is added. -/
import Derived.Test.YtbianfjennnofaaGreatDoorG13f
namespace Go.Proofs.YtbianfjennnofaaGreatDoor
set_option linter.unusedVariables false
open Go Go.RowKit Go.Maps
set_option maxRecDepth 100000
set_option maxHeartbeats 1000000
open Nt (Tr Nd WF Ps Path at_ cnt used)
theorem son_size (xs : List Int) : (strOfNums xs).size = xs.length := by simp [strOfNums, ByteArray.size]
theorem newDir_any (w : World) (p q r s : Int) :
    Calls Tryz.prog 39 #[.agg #[.int .i64 p, .int .i64 q, .int .i64 r, .int .i64 s]] w fun e w' => e = .returned (.pointer (some ⟨w.heap.size + 2, 0, none⟩)) ∧ BX w' (w.heap.size + 2) 91 (NC ⟨4, p, q, r, s, ⟨#[]⟩, none, 0, 0, []⟩ (some (w.heap.size + 1)) 0) ∧
      MapAt w' (w.heap.size + 1) 0 (fun _ => none) ∧ Below w.heap.size w w' ∧ w'.heap.size = w.heap.size + 3 := by
  have hmm := @run_makeMap Tryz.prog
  have hm := MapAt.made (w.alloc (.cells #[.int .i64 p, .int .i64 q, .int .i64 r, .int .i64 s] 72))
  have hb := (bthen (below_new w (.cells #[.int .i64 p, .int .i64 q, .int .i64 r, .int .i64 s] 72)) (below_new _ (.map #[] 0)))
  have HM := Lib.hid hm; have HB := Lib.hid hb; clear hm hb
  go_enter Tryz.func39, Tryz.ntmps39
  go_wp2
  go_ret
  refine ⟨by simp, ?_, ?_, bthen HB.out (below_new _ _), by simp⟩
  · have := BX.new ((w.alloc (.cells #[.int .i64 p, .int .i64 q, .int .i64 r, .int .i64 s] 72)).alloc (.map #[] 0)) 91 (NC ⟨4, p, q, r, s, ⟨#[]⟩, none, 0, 0, []⟩ (some (w.heap.size + 1)) 0)
    simp only [World.size_alloc] at this
    exact this
  · have := HM.out
    simp only [World.size_alloc] at this
    exact this.alloc _
theorem bx_type {w : World} {a T U : Nat} {cs ds : Array Value} (h : BX w a T cs) (k : BX w a U ds) : T = U := by
  unfold BX at h k
  rw [h] at k
  cases k
  rfl
theorem bx_ne {w : World} {a b T U : Nat} {cs ds : Array Value} (h : BX w a T cs) (k : BX w b U ds) (hT : T ≠ U) : a ≠ b := fun e => hT (bx_type h (e ▸ k))
/-- A new node at a place. -/
theorem add_any (w : World) (tb a b c n : Nat) (x y : Nd) (k k0 : Int) (mv : Option Nat) (f : ByteArray → Option Nat) (s : ByteArray) (rt : Value) (r v : Int) (u z : Nat)
    (ht : BX w tb 95 #[rt, .int .i64 r, .int .i64 v, .int .i64 u, .int .i64 z]) (hx : BX w a 91 (NC x (some b) k)) (hm : MapAt w b n f) (hc : BX w c 91 (NC y mv k0)) (hac : a ≠ c)
    (hn : n < 1000000) (hs : s.size ≤ 1000000) (hu : u ≤ 1000000000000) (hz : z ≤ 1000000000000) (hy : y.xs.length ≤ 1000000) :
    Calls Tryz.prog 81 #[.pointer (some ⟨tb, 0, none⟩), .agg #[.pointer (some ⟨a, 0, none⟩), .string s], .pointer (some ⟨c, 0, none⟩)] w fun e w' => e = .returned (.tuple #[]) ∧ MapAt w' b (n + 1) (fun x => if x = s then some c else f x) ∧
      BX w' c 91 (NC y mv 1) ∧ BX w' tb 95 #[rt, .int .i64 r, .int .i64 v, .int .i64 (u + 1 : Nat), .int .i64 (z + y.xs.length : Nat)] ∧ Keep (fun k => k = b ∨ k = c ∨ k = tb) w w' := by
  have e1 : IntKind.i64.wrap ((u : Int) + 1) = (u + 1 : Nat) := by rw [wrap_small (by omega) (by omega)]; omega
  have e2 : IntKind.i64.wrap ((z : Int) + (y.xs.length : Int)) = (z + y.xs.length : Nat) := by rw [wrap_small (by omega) (by omega)]; omega
  have esz := son_size y.xs
  have nct := Lib.hid (bx_ne hc ht (by decide))
  have nbt := Lib.hid (hm.ne_bx ht)
  have nbc := Lib.hid (hm.ne_bx hc)
  have hx' := Lib.hid (hx.alloc (.cells #[.pointer (some ⟨a, 0, none⟩), .string s] 136))
  have hm' := Lib.hid (hm.alloc (.cells #[.pointer (some ⟨a, 0, none⟩), .string s] 136))
  have hc' := Lib.hid (hc.alloc (.cells #[.pointer (some ⟨a, 0, none⟩), .string s] 136))
  have ht' := Lib.hid (ht.alloc (.cells #[.pointer (some ⟨a, 0, none⟩), .string s] 136))
  have hb0 := Lib.hid (below_new w (.cells #[.pointer (some ⟨a, 0, none⟩), .string s] 136))
  have kp := Lib.hid (fun W (h1 : BX W a 91 (NC x (some b) k)) (h2 : MapAt W b n f) => pput_any W a b n c x k f s h1 h2 hn hs)
  obtain ⟨D, hD⟩ : ∃ D, strOfNums y.xs = D := ⟨_, rfl⟩
  obtain ⟨L, hL⟩ : ∃ L, y.xs.length = L := ⟨_, rfl⟩
  have hq : NC y mv k0 = #[.int .i64 y.kind, .int .i64 y.mode, .int .i64 y.uid, .int .i64 y.gid, .int .i64 y.mtime, .string y.link, .string D, .map mv, .int .i64 k0] := by rw [← hD]
  have hq1 : NC y mv 1 = #[.int .i64 y.kind, .int .i64 y.mode, .int .i64 y.uid, .int .i64 y.gid, .int .i64 y.mtime, .string y.link, .string D, .map mv, .int .i64 1] := by rw [← hD]
  rw [hq] at hc'
  rw [hq1]
  rw [hD] at esz
  rw [hL] at e2 esz
  rw [hL]
  clear hx hm hc ht hq hq1 hD hL hac
  go_enter Tryz.func81, Tryz.ntmps81
  go_wp2_with (go_at_call 82; refine (kp.out _ hx'.out hm'.out).mono ?_; rintro e w1 ⟨rfl, hm1, ho1⟩; have hc1 := Lib.hid (hc'.out.oth ho1 (fun e => nbc.out e)); have ht1 := Lib.hid (ht'.out.oth ho1 (fun e => nbt.out e)); have y0 := hc1.out.free 8; have y1 : w1.cell? ⟨c, 8, none⟩ = some (.int .i64 k0) := hc1.out.cell rfl; have y2 := ht1.out.free 3; have y3 : w1.cell? ⟨tb, 3, none⟩ = some (.int .i64 u) := ht1.out.cell rfl)
  have hc2 := Lib.hid ((hc1.out.set 8 (.int .i64 1)).other (b := tb) (j := 3) nct.out (.int .i64 ((u : Int) + 1)))
  have ht2 := Lib.hid ((ht1.out.other (b := c) (j := 8) (fun e => nct.out e.symm) (.int .i64 1)).set 3 (.int .i64 ((u : Int) + 1)))
  have hm2 := Lib.hid ((hm1.setCell (a := ⟨c, 8, none⟩) (fun e => nbc.out e.symm) (.int .i64 1)).setCell (a := ⟨tb, 3, none⟩) (fun e => nbt.out e.symm) (.int .i64 ((u : Int) + 1)))
  have hk2 : Hid (Keep (fun k => k = b ∨ k = c ∨ k = tb) w ((w1.setCell ⟨c, 8, none⟩ (.int .i64 1)).setCell ⟨tb, 3, none⟩ (.int .i64 ((u : Int) + 1)))) :=
    (((Keep.ofBelow hb0.out).trans (Keep.ofOth ho1 (.inl rfl))).trans (Keep.ofOth ((Oth.refl c w1).setCell 8 _) (.inr (.inl rfl)))).trans (Keep.ofOth ((Oth.refl tb _).setCell 3 _) (.inr (.inr rfl)))
  clear y0 y1 y2 y3 hm1
  generalize (w1.setCell ⟨c, 8, none⟩ (.int .i64 1)).setCell ⟨tb, 3, none⟩ (.int .i64 ((u : Int) + 1)) = W2 at *
  have z4 : W2.cell? ⟨tb, 4, none⟩ = some (.int .i64 z) := ht2.out.cell rfl
  have z6 : W2.cell? ⟨c, 6, none⟩ = some (.string D) := hc2.out.cell rfl
  go_still_tail 14, (by kernel_rfl)
  change wpList _ _ _ _ _ W2.drew
  have f4 : W2.drew.frozen? ⟨tb, 4, none⟩ = false := ht2.out.free 4
  have z4' : W2.drew.cell? ⟨tb, 4, none⟩ = some (.int .i64 z) := z4
  go_wp2
  refine bodyPost_end (v := .tuple #[]) (by simp [results, Tryz.f81, go_sem]) rfl ?_
  refine ⟨rfl, (hm2.out.drewN 1).setCell (a := ⟨tb, 4, none⟩) (fun e => nbt.out e.symm) _, (hc2.out.drewN 1).other nct.out _, ?_, ?_⟩
  · have := (ht2.out.drewN 1).set 4 (.int .i64 ((z + L : Nat) : Int))
    exact this
  · exact (hk2.out.trans (Keep.ofBelow (below_drewN (Below.refl _ W2) 1))).trans (Keep.ofOth ((Oth.refl tb _).setCell 4 _) (.inr (.inr rfl)))
end Go.Proofs.YtbianfjennnofaaGreatDoor
