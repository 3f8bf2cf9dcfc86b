/- WALKS OF THE DOCUMENT's LAYER 8, as its tree asks it: may a Sym's link be? -/
import Derived.Test.YthgbncpiehcghaaGreatDoorGr1
import Derived.Test.YthgbncpiehcghaaGreatDoorV2b
import Derived.Test.YthgbncpiehcghaaGreatDoorGn2
import Derived.Lib.ConvBytes
namespace Go.Proofs.YthgbncpiehcghaaGreatDoor
set_option linter.unusedVariables false
open Go Go.RowKit Go.Maps
set_option maxRecDepth 100000
set_option maxHeartbeats 4000000
open Nt (Tr Nd WF Ps Path at_ cnt used txt)
theorem rb_conv13 (w : World) (s : ByteArray) : RB (Lib.bytesWorld w 5 s) (Lib.bytesWorld w 5 s).heap.size (some ⟨w.heap.size, 0, none⟩) s.size (Sf.nums s) := by
  refine ⟨by simp [Sf.nums], fun _ => ⟨w.heap.size, 0, rfl, by rw [Lib.bytesWorld_size]; omega, fun j hj => ?_⟩⟩
  rw [show 0 + j = j by omega, Lib.bytesWorld_cell _ _ _ _ hj]
  have hl : j < s.data.toList.length := hj
  unfold Sf.nums
  simp only [List.getD, List.getElem?_map, List.getElem?_eq_getElem hl, Option.map_some, Option.getD_some]
theorem below_conv13 (w : World) (s : ByteArray) (e : TypeId) : Below w.heap.size w (Lib.bytesWorld w e s) :=
  ⟨rfl, rfl, rfl, by rw [Lib.bytesWorld_size]; omega, fun k hk => Lib.bytesWorld_at_old _ _ _ _ (by omega)⟩
theorem run_conv13 (s : ByteArray) (w : World) : (convert 9 36 (.string s)).run Tryz.prog w = .ok (.slice (some ⟨w.heap.size, 0, none⟩) s.size (grownCap w s.size 0 5)) (Lib.bytesWorld w 5 s) :=
  Lib.run_convert_string_bytes w 9 36 5 s Tryz.underlying9 Tryz.underlying36 Tryz.underlying5
def has013 (s : ByteArray) : Bool := decide (Sf.zb s.data.toList < s.size)
theorem has_loose13 (s : ByteArray) : (decide (strOfNums (Sf.looseS (Sf.nums s)) = s)) = !has013 s := by
  have hz : Sf.zi (Sf.nums s) = Sf.zb s.data.toList := by
    have := Sf.zb_strOfNums (Sf.nums s) (Sf.byt_nums s)
    rw [Sf.str_nums] at this
    exact this.symm
  have hl : (Sf.nums s).length = s.size := by simp [Sf.nums]
  have hle := Sf.zb_size s
  unfold has013
  by_cases h : Sf.zb s.data.toList < s.size
  · have h1 : ¬ strOfNums (Sf.looseS (Sf.nums s)) = s := fun h2 => by
      have := congrArg ByteArray.size h2
      rw [Sf.size_strOfNums] at this
      unfold Sf.looseS at this
      rw [List.length_take, hz, hl] at this
      omega
    rw [decide_eq_true h, decide_eq_false h1]
    rfl
  · have h1 : strOfNums (Sf.looseS (Sf.nums s)) = s := by
      unfold Sf.looseS
      rw [hz, List.take_of_length_le (by omega), Sf.str_nums]
    rw [decide_eq_false h, decide_eq_true h1]
    rfl
theorem refhas13 (s : ByteArray) (w : World) (hs : s.size ≤ 1000000) : Calls Tryz.prog 147 #[.string s] w fun e w' => e = .returned (.bool (has013 s)) ∧ Below w.heap.size w w' := by
  have hr := rb_conv13 w s
  have cb := below_conv13 w s 5
  have cl := refloose_any (some ⟨w.heap.size, 0, none⟩) s.size (grownCap w s.size 0 5) (Sf.nums s) _ hr (Sf.byt_nums _) (by omega)
  have cr := run_conv13 s w
  have hh := has_loose13 s
  rw [← Pp.toList_eq] at hh
  generalize strOfNums (Sf.looseS (Sf.nums s)) = r at *
  generalize Lib.bytesWorld w 5 s = w1 at *
  generalize grownCap w s.size 0 5 = cc at *
  generalize has013 s = b at *
  have CL := Lib.hid cl; have CB := Lib.hid cb; have HH := Lib.hid hh
  clear cl cb hr hh
  go_enter Tryz.func147, Tryz.ntmps147
  go_wp2_with (go_at_call 158; (with_reducible refine (CL.out).mono ?_); rintro e w2 ⟨rfl, rfl⟩)
  go_ret
  refine ⟨ret_bool ?_, CB.out⟩
  simp [HH.out]
def sE (l : ByteArray) : Int := if l.size = 0 ∨ has013 l = true then 3 else if 300 < l.size then 10 else 0
theorem sE_link (l : ByteArray) : sE l = Nt.linkE l := by
  have hz : has013 l = true ↔ (0 : UInt8) ∈ l.data.toList := by
    unfold has013 Sf.zb
    rw [decide_eq_true_eq, Pp.size_eq, List.findIdx_lt_length]
    constructor
    · rintro ⟨x, hx, h⟩
      obtain rfl : x = 0 := by simpa using h
      exact hx
    · intro h
      exact ⟨0, h, by simp⟩
  unfold sE Nt.linkE
  by_cases h0 : l.size = 0
  · rw [if_pos (.inl h0), if_pos h0]
  · rw [if_neg h0]
    by_cases h1 : (0 : UInt8) ∈ l.data.toList
    · rw [if_pos (.inr (hz.2 h1)), if_pos h1]
    · rw [if_neg h1, if_neg (fun h => h.elim h0 fun e => h1 (hz.1 e))]
abbrev SyC (l : ByteArray) : Array Value := #[.string ⟨#[120]⟩, .int .i64 3, .int .i64 0, .int .i64 0, .int .i64 0, .int .i64 0, .string l, .slice none 0 0]
theorem reflink13 (l : ByteArray) (w : World) (hl : l.size ≤ 1000000) :
    Calls Tryz.prog 135 #[.agg (SyC l)] w fun e w' => e = .returned (.int .i64 (Nt.linkE l)) ∧ Below w.heap.size w w' := by
  rw [← sE_link]
  have hb := Lib.hid (below_new w (.cells (SyC l) 156))
  have hx := Lib.hid (fun W (h : Below (w.alloc (.cells (SyC l) 156)).heap.size (w.alloc (.cells (SyC l) 156)) W) => (BX.new w 156 (SyC l)).later h)
  have emp : l.toList.isEmpty = decide (l.size = 0) := isEmpty_eq l
  unfold sE
  by_cases h0 : l.size = 0
  · rw [if_pos (.inl h0)]
    rw [decide_eq_true h0] at emp
    go_enter Tryz.func135, Tryz.ntmps135
    go_wp2
    go_ret
    exact ⟨rfl, hb.out⟩
  · rw [decide_eq_false h0] at emp
    have ch := fun W => refhas13 l W hl
    cases hh : has013 l with
    | true =>
      rw [if_pos (.inr rfl)]
      rw [hh] at ch
      have CH := Lib.hid ch
      clear ch hh h0
      go_enter Tryz.func135, Tryz.ntmps135
      go_wp2_with (go_at_call 147; (with_reducible refine (CH.out _).mono ?_); rintro e w1 ⟨rfl, hb1⟩)
      go_ret
      exact ⟨rfl, bthen hb.out hb1⟩
    | false =>
      rw [if_neg (fun h => h.elim h0 (by decide))]
      rw [hh] at ch
      have CH := Lib.hid ch
      clear ch hh h0
      by_cases hs : 300 < l.size
      · have hs' : (300 : Int) < l.size := by omega
        rw [if_pos hs]
        go_enter Tryz.func135, Tryz.ntmps135
        go_wp2_with (go_at_call 147; (with_reducible refine (CH.out _).mono ?_); rintro e w1 ⟨rfl, hb1⟩; have q6 : w1.cell? ⟨w.heap.size, 6, none⟩ = some (.string l) := (hx.out _ hb1).cell rfl)
        go_ret
        exact ⟨rfl, bthen hb.out hb1⟩
      · have hs' : ¬ (300 : Int) < l.size := by omega
        rw [if_neg hs]
        go_enter Tryz.func135, Tryz.ntmps135
        go_wp2_with (go_at_call 147; (with_reducible refine (CH.out _).mono ?_); rintro e w1 ⟨rfl, hb1⟩; have q6 : w1.cell? ⟨w.heap.size, 6, none⟩ = some (.string l) := (hx.out _ hb1).cell rfl)
        go_ret
        exact ⟨rfl, bthen hb.out hb1⟩
theorem x_pieces : Pp.pieces ⟨#[120]⟩ = [⟨#[120]⟩] := Pp.map_inj (by rw [Pp.pieces_map]; decide +kernel)
theorem x_parts : (Pp.partsS ⟨#[120]⟩).2 = 0 := by
  rw [Pp.parts_yes (by decide +kernel) (by rw [x_pieces]; intro y hy; obtain rfl : y = ⟨#[120]⟩ := (by simpa using hy); decide +kernel)]
theorem refmay13 (l : ByteArray) (w : World) (hl : l.size ≤ 1000000) :
    Calls Tryz.prog 103 #[.agg (SyC l)] w fun e w' => e = .returned (.int .i64 (Nt.linkE l)) ∧ Below w.heap.size w w' := by
  have hb := Lib.hid (below_new w (.cells (SyC l) 156))
  have cp := fun W => refparts_any ⟨#[120]⟩ W (by decide +kernel)
  rw [x_parts] at cp
  have CP := Lib.hid cp
  have cm := fun W => refnum13 0 0 0 0 W
  rw [show Nt.metaOk 0 0 0 0 = true from rfl] at cm
  have CM := Lib.hid cm
  have cl := fun W => reflink13 l W hl
  generalize Nt.linkE l = z at *
  have CL := Lib.hid cl
  have CF := Lib.hid (fun W (h : Below (w.alloc (.cells (SyC l) 156)).heap.size (w.alloc (.cells (SyC l) 156)) W) => show W.cell? ⟨w.heap.size, 0, none⟩ = some (.string ⟨#[120]⟩) ∧ W.cell? ⟨w.heap.size, 1, none⟩ = some (.int .i64 3) ∧ W.cell? ⟨w.heap.size, 2, none⟩ = some (.int .i64 0) ∧ W.cell? ⟨w.heap.size, 3, none⟩ = some (.int .i64 0) ∧ W.cell? ⟨w.heap.size, 4, none⟩ = some (.int .i64 0) ∧ W.cell? ⟨w.heap.size, 5, none⟩ = some (.int .i64 0) ∧ W.cell? ⟨w.heap.size, 6, none⟩ = some (.string l) ∧ W.cell? ⟨w.heap.size, 7, none⟩ = some (.slice none 0 0) from
    have hx := (BX.new w 156 (SyC l)).later h
    ⟨hx.cell rfl, hx.cell rfl, hx.cell rfl, hx.cell rfl, hx.cell rfl, hx.cell rfl, hx.cell rfl, hx.cell rfl⟩)
  clear cp cm cl
  by_cases hz : z = 0
  · subst hz
    go_enter Tryz.func103, Tryz.ntmps103
    go_wp2_with (first
      | (go_at_call 135; (with_reducible refine (CL.out _).mono ?_); rintro e w4 ⟨rfl, hb4⟩; obtain ⟨s0, s1, s2, s3, s4, s5, s6, s7⟩ := CF.out _ (bthen (bthen hb1 hb3) hb4))
      | (go_at_call 102; (with_reducible refine (CM.out _).mono ?_); rintro e w3 ⟨rfl, hb3⟩; obtain ⟨r0, r1, r2, r3, r4, r5, r6, r7⟩ := CF.out _ (bthen hb1 hb3))
      | (go_at_call 67; (with_reducible refine (CP.out _).mono ?_); rintro e w1 ⟨v, rfl, _, hb1⟩; obtain ⟨q0, q1, q2, q3, q4, q5, q6, q7⟩ := CF.out _ hb1))
    go_ret
    exact ⟨rfl, bthen hb.out (bthen (bthen hb1 hb3) hb4)⟩
  · have gz : (z != 0) = true := by simp [hz]
    clear hz
    go_enter Tryz.func103, Tryz.ntmps103
    go_wp2_with (first
      | (go_at_call 135; (with_reducible refine (CL.out _).mono ?_); rintro e w4 ⟨rfl, hb4⟩; obtain ⟨s0, s1, s2, s3, s4, s5, s6, s7⟩ := CF.out _ (bthen (bthen hb1 hb3) hb4))
      | (go_at_call 102; (with_reducible refine (CM.out _).mono ?_); rintro e w3 ⟨rfl, hb3⟩; obtain ⟨r0, r1, r2, r3, r4, r5, r6, r7⟩ := CF.out _ (bthen hb1 hb3))
      | (go_at_call 67; (with_reducible refine (CP.out _).mono ?_); rintro e w1 ⟨v, rfl, _, hb1⟩; obtain ⟨q0, q1, q2, q3, q4, q5, q6, q7⟩ := CF.out _ hb1))
    go_ret
    exact ⟨rfl, bthen hb.out (bthen (bthen hb1 hb3) hb4)⟩
end Go.Proofs.YthgbncpiehcghaaGreatDoor
