/- WALKS OF LAYER 13, TWENTIETH PART: a tree that nobody made. -/
import Derived.Test.YtihaeggeeeihnaaDoorG13s
namespace Go.Proofs.YtihaeggeeeihnaaDoor
set_option linter.unusedVariables false
open Go Go.RowKit Go.Maps
set_option maxRecDepth 100000
set_option maxHeartbeats 1000000
/-- NOBODY MADE V. -/
def Nob (w : World) (V : Value) : Prop := ∀ W, Below w.heap.size w W → Calls Tryd.prog 24 #[V] W fun e w' => e = .returned (.bool false) ∧ W = w'
theorem Nob.later {w W : World} {V : Value} (h : Nob w V) (hb : Below w.heap.size w W) : Nob W V := fun U hU => h U (hb.trans (hU.mono hb.size))
theorem Nob.nil (w : World) : Nob w (.pointer none) := fun W _ => made_none W
theorem Nob.zero {w : World} {tb : Nat} {cs : Array Value} (hx : BX w tb 49 cs) (h0 : cs[0]? = some (.pointer none)) : Nob w (.pointer (some ⟨tb, 0, none⟩)) := fun W hb => made_no W tb cs (hx.later hb) h0
section
variable {w : World} {V : Value}
theorem find_nob (h : Nob w V) (p : ByteArray) : Calls Tryd.prog 29 #[V, .string p] w fun e w' => e = .returned (.tuple #[.pointer none, .int .i64 2]) ∧ Below w.heap.size w w' := by
  have hn := Lib.hid h
  have hb0 := Lib.hid (fun o => below_new w o)
  clear h
  go_enter Tryd.func29, Tryd.ntmps29
  go_wp2_with (first
    | (go_at_call 24; refine (hn.out _ (by first | exact Below.refl _ _ | exact hb0.out _)).mono ?_; rintro e w' ⟨rfl, rfl⟩))
  go_ret2
  exact ⟨rfl, by first | exact Below.refl _ _ | exact hb1 | exact bthen (hb0.out _) hb1 | exact bthen hb1 (below_new w1 _) | exact bthen (bthen (hb0.out _) hb1) (below_new w1 _)⟩
theorem placeOf_nob (h : Nob w V) (p : ByteArray) : Calls Tryd.prog 30 #[V, .string p] w fun e w' => e = .returned (.tuple #[noPlace, .int .i64 2]) ∧ Below w.heap.size w w' := by
  have hn := Lib.hid h
  have hb0 := Lib.hid (fun o => below_new w o)
  have hB := BX.new w 71 #[.pointer none, .string ⟨#[]⟩]
  have q0 : (w.alloc (.cells #[.pointer none, .string ⟨#[]⟩] 71)).cell? ⟨w.heap.size, 0, none⟩ = some (.pointer none) := hB.cell rfl
  have q1 : (w.alloc (.cells #[.pointer none, .string ⟨#[]⟩] 71)).cell? ⟨w.heap.size, 1, none⟩ = some (.string ⟨#[]⟩) := hB.cell rfl
  clear hB
  clear h
  go_enter Tryd.func30, Tryd.ntmps30
  go_wp2_with (first
    | (go_at_call 24; refine (hn.out _ (by first | exact Below.refl _ _ | exact hb0.out _)).mono ?_; rintro e w' ⟨rfl, rfl⟩))
  refine bodyPost_ret (v := .tuple #[noPlace, .int .i64 2]) (by simp [results, Tryd.f30, go_sem, q0, q1]) rfl ?_
  exact ⟨rfl, hb0.out _⟩
theorem newPlace_nob (h : Nob w V) (p : ByteArray) : Calls Tryd.prog 34 #[V, .string p] w fun e w' => e = .returned (.tuple #[noPlace, .int .i64 2]) ∧ Below w.heap.size w w' := by
  have hn := Lib.hid h
  have hb0 := Lib.hid (fun o => below_new w o)
  have HB := Lib.hid (BX.new w 71 #[.pointer none, .string ⟨#[]⟩])
  clear h
  go_enter Tryd.func34, Tryd.ntmps34
  go_wp2_with (first
    | (go_at_call 30; refine (placeOf_nob (hn.out.later (by first | exact Below.refl _ _ | exact hb0.out _)) _).mono ?_; rintro e w1 ⟨rfl, hb1⟩; have hbx := Lib.hid ((HB.out.later hb1).alloc (.cells #[.pointer none, .string ⟨#[]⟩] 71)); have q0 := (hbx.out.cell (j := 0) (v := .pointer none) rfl); have q1 := (hbx.out.cell (j := 1) (v := .string ⟨#[]⟩) rfl); have f0 := hbx.out.free 0; have f1 := hbx.out.free 1))
  refine bodyPost_ret (v := .tuple #[noPlace, .int .i64 2]) (by simp [results, Tryd.f34, go_sem, q0, q1]) rfl ?_
  exact ⟨rfl, ((bthen (bthen (hb0.out _) hb1) (below_new w1 _)).setCell (p := ⟨w.heap.size, 0, none⟩) (by simp) _).setCell (p := ⟨w.heap.size, 1, none⟩) (by simp) _⟩
theorem mkdir_nob (h : Nob w V) (p : ByteArray) (a b c d : Int) : Calls Tryd.prog 19 #[V, .string p, .agg #[.int .i64 a, .int .i64 b, .int .i64 c, .int .i64 d]] w fun e w' => e = .returned (.int .i64 2) ∧ Below w.heap.size w w' := by
  have hn := Lib.hid h
  have hb0 := Lib.hid (fun o => below_new w o)
  clear h
  go_enter Tryd.func19, Tryd.ntmps19
  go_wp2_with (first
    | (go_at_call 34; refine (newPlace_nob (hn.out.later (by first | exact Below.refl _ _ | exact hb0.out _)) _).mono ?_; rintro e w1 ⟨rfl, hb1⟩))
  go_ret
  exact ⟨rfl, by first | exact Below.refl _ _ | exact hb1 | exact bthen (hb0.out _) hb1 | exact bthen hb1 (below_new w1 _) | exact bthen (bthen (hb0.out _) hb1) (below_new w1 _)⟩
theorem create_nob (h : Nob w V) (p : ByteArray) (a b c d : Int) (A : Option Addr) (n k : Nat) : Calls Tryd.prog 20 #[V, .string p, .agg #[.int .i64 a, .int .i64 b, .int .i64 c, .int .i64 d], .slice A n k] w fun e w' => e = .returned (.int .i64 2) ∧ Below w.heap.size w w' := by
  have hn := Lib.hid h
  have hb0 := Lib.hid (fun o => below_new w o)
  clear h
  go_enter Tryd.func20, Tryd.ntmps20
  go_wp2_with (first
    | (go_at_call 34; refine (newPlace_nob (hn.out.later (by first | exact Below.refl _ _ | exact hb0.out _)) _).mono ?_; rintro e w1 ⟨rfl, hb1⟩))
  go_ret
  exact ⟨rfl, by first | exact Below.refl _ _ | exact hb1 | exact bthen (hb0.out _) hb1 | exact bthen hb1 (below_new w1 _) | exact bthen (bthen (hb0.out _) hb1) (below_new w1 _)⟩
theorem sym_nob (h : Nob w V) (p : ByteArray) (a b c d : Int) (l : ByteArray) : Calls Tryd.prog 25 #[V, .string p, .agg #[.int .i64 a, .int .i64 b, .int .i64 c, .int .i64 d], .string l] w fun e w' => e = .returned (.int .i64 2) ∧ Below w.heap.size w w' := by
  have hn := Lib.hid h
  have hb0 := Lib.hid (fun o => below_new w o)
  clear h
  go_enter Tryd.func25, Tryd.ntmps25
  go_wp2_with (first
    | (go_at_call 34; refine (newPlace_nob (hn.out.later (by first | exact Below.refl _ _ | exact hb0.out _)) _).mono ?_; rintro e w1 ⟨rfl, hb1⟩))
  go_ret
  exact ⟨rfl, by first | exact Below.refl _ _ | exact hb1 | exact bthen (hb0.out _) hb1 | exact bthen hb1 (below_new w1 _) | exact bthen (bthen (hb0.out _) hb1) (below_new w1 _)⟩
theorem link_nob (h : Nob w V) (p q : ByteArray) : Calls Tryd.prog 21 #[V, .string p, .string q] w fun e w' => e = .returned (.int .i64 2) ∧ Below w.heap.size w w' := by
  have hn := Lib.hid h
  have hb0 := Lib.hid (fun o => below_new w o)
  clear h
  go_enter Tryd.func21, Tryd.ntmps21
  go_wp2_with (first
    | (go_at_call 34; refine (newPlace_nob (hn.out.later (by first | exact Below.refl _ _ | exact hb0.out _)) _).mono ?_; rintro e w1 ⟨rfl, hb1⟩))
  go_ret
  exact ⟨rfl, by first | exact Below.refl _ _ | exact hb1 | exact bthen (hb0.out _) hb1 | exact bthen hb1 (below_new w1 _) | exact bthen (bthen (hb0.out _) hb1) (below_new w1 _)⟩
theorem write_nob (h : Nob w V) (p : ByteArray) (A : Option Addr) (n k : Nat) : Calls Tryd.prog 26 #[V, .string p, .slice A n k] w fun e w' => e = .returned (.int .i64 2) ∧ Below w.heap.size w w' := by
  have hn := Lib.hid h
  have hb0 := Lib.hid (fun o => below_new w o)
  clear h
  go_enter Tryd.func26, Tryd.ntmps26
  go_wp2_with (first
    | (go_at_call 29; refine (find_nob (hn.out.later (by first | exact Below.refl _ _ | exact hb0.out _)) _).mono ?_; rintro e w1 ⟨rfl, hb1⟩))
  go_ret
  exact ⟨rfl, by first | exact Below.refl _ _ | exact hb1 | exact bthen (hb0.out _) hb1 | exact bthen hb1 (below_new w1 _) | exact bthen (bthen (hb0.out _) hb1) (below_new w1 _)⟩
theorem set_nob (h : Nob w V) (p : ByteArray) (a b c d : Int) : Calls Tryd.prog 27 #[V, .string p, .agg #[.int .i64 a, .int .i64 b, .int .i64 c, .int .i64 d]] w fun e w' => e = .returned (.int .i64 2) ∧ Below w.heap.size w w' := by
  have hn := Lib.hid h
  have hb0 := Lib.hid (fun o => below_new w o)
  clear h
  go_enter Tryd.func27, Tryd.ntmps27
  go_wp2_with (first
    | (go_at_call 29; refine (find_nob (hn.out.later (by first | exact Below.refl _ _ | exact hb0.out _)) _).mono ?_; rintro e w1 ⟨rfl, hb1⟩))
  go_ret
  exact ⟨rfl, by first | exact Below.refl _ _ | exact hb1 | exact bthen (hb0.out _) hb1 | exact bthen hb1 (below_new w1 _) | exact bthen (bthen (hb0.out _) hb1) (below_new w1 _)⟩
theorem remove_nob (h : Nob w V) (p : ByteArray) : Calls Tryd.prog 22 #[V, .string p] w fun e w' => e = .returned (.int .i64 2) ∧ Below w.heap.size w w' := by
  have hn := Lib.hid h
  have hb0 := Lib.hid (fun o => below_new w o)
  clear h
  go_enter Tryd.func22, Tryd.ntmps22
  go_wp2_with (first
    | (go_at_call 29; refine (find_nob (hn.out.later (by first | exact Below.refl _ _ | exact hb0.out _)) _).mono ?_; rintro e w1 ⟨rfl, hb1⟩))
  go_ret
  exact ⟨rfl, by first | exact Below.refl _ _ | exact hb1 | exact bthen (hb0.out _) hb1 | exact bthen hb1 (below_new w1 _) | exact bthen (bthen (hb0.out _) hb1) (below_new w1 _)⟩
theorem clear_nob (h : Nob w V) (p : ByteArray) : Calls Tryd.prog 14 #[V, .string p] w fun e w' => e = .returned (.int .i64 2) ∧ Below w.heap.size w w' := by
  have hn := Lib.hid h
  have hb0 := Lib.hid (fun o => below_new w o)
  clear h
  go_enter Tryd.func14, Tryd.ntmps14
  go_wp2_with (first
    | (go_at_call 29; refine (find_nob (hn.out.later (by first | exact Below.refl _ _ | exact hb0.out _)) _).mono ?_; rintro e w1 ⟨rfl, hb1⟩))
  go_ret
  exact ⟨rfl, by first | exact Below.refl _ _ | exact hb1 | exact bthen (hb0.out _) hb1 | exact bthen hb1 (below_new w1 _) | exact bthen (bthen (hb0.out _) hb1) (below_new w1 _)⟩
theorem rename_nob (h : Nob w V) (p q : ByteArray) : Calls Tryd.prog 23 #[V, .string p, .string q] w fun e w' => e = .returned (.int .i64 2) ∧ Below w.heap.size w w' := by
  have hn := Lib.hid h
  have hb0 := Lib.hid (fun o => below_new w o)
  clear h
  go_enter Tryd.func23, Tryd.ntmps23
  go_wp2_with (first
    | (go_at_call 29; refine (find_nob (hn.out.later (by first | exact Below.refl _ _ | exact hb0.out _)) _).mono ?_; rintro e w1 ⟨rfl, hb1⟩))
  go_ret
  exact ⟨rfl, by first | exact Below.refl _ _ | exact hb1 | exact bthen (hb0.out _) hb1 | exact bthen hb1 (below_new w1 _) | exact bthen (bthen (hb0.out _) hb1) (below_new w1 _)⟩
theorem list_nob (h : Nob w V) (p : ByteArray) : Calls Tryd.prog 15 #[V, .string p] w fun e w' => e = .returned (.tuple #[.slice none 0 0, .int .i64 2]) ∧ Below w.heap.size w w' := by
  have hn := Lib.hid h
  have hb0 := Lib.hid (fun o => below_new w o)
  clear h
  go_enter Tryd.func15, Tryd.ntmps15
  go_wp2_with (first
    | (go_at_call 29; refine (find_nob (hn.out.later (by first | exact Below.refl _ _ | exact hb0.out _)) _).mono ?_; rintro e w1 ⟨rfl, hb1⟩))
  go_ret2
  exact ⟨rfl, by first | exact Below.refl _ _ | exact hb1 | exact bthen (hb0.out _) hb1 | exact bthen hb1 (below_new w1 _) | exact bthen (bthen (hb0.out _) hb1) (below_new w1 _)⟩
theorem same_nob (h : Nob w V) (p q : ByteArray) : Calls Tryd.prog 17 #[V, .string p, .string q] w fun e w' => e = .returned (.bool false) ∧ Below w.heap.size w w' := by
  have hn := Lib.hid h
  have hb0 := Lib.hid (fun o => below_new w o)
  clear h
  go_enter Tryd.func17, Tryd.ntmps17
  go_wp2_with (first
    | (go_at_call 29; refine (find_nob (hn.out.later (by first | exact Below.refl _ _ | exact hb0.out _)) _).mono ?_; rintro e w1 ⟨rfl, hb1⟩))
  go_ret
  exact ⟨rfl, by first | exact Below.refl _ _ | exact hb1 | exact bthen (hb0.out _) hb1 | exact bthen hb1 (below_new w1 _) | exact bthen (bthen (hb0.out _) hb1) (below_new w1 _)⟩
theorem clone_nob (h : Nob w V)  : Calls Tryd.prog 13 #[V] w fun e w' => e = .returned (.pointer none) ∧ Below w.heap.size w w' := by
  have hn := Lib.hid h
  have hb0 := Lib.hid (fun o => below_new w o)
  clear h
  go_enter Tryd.func13, Tryd.ntmps13
  go_wp2_with (first
    | (go_at_call 24; refine (hn.out _ (by first | exact Below.refl _ _ | exact hb0.out _)).mono ?_; rintro e w' ⟨rfl, rfl⟩))
  go_ret
  exact ⟨rfl, by first | exact Below.refl _ _ | exact hb1 | exact bthen (hb0.out _) hb1 | exact bthen hb1 (below_new w1 _) | exact bthen (bthen (hb0.out _) hb1) (below_new w1 _)⟩
theorem used_nob (h : Nob w V)  : Calls Tryd.prog 10 #[V] w fun e w' => e = .returned (.tuple #[.int .i64 0, .int .i64 0]) ∧ Below w.heap.size w w' := by
  have hn := Lib.hid h
  have hb0 := Lib.hid (fun o => below_new w o)
  clear h
  go_enter Tryd.func10, Tryd.ntmps10
  go_wp2_with (first
    | (go_at_call 24; refine (hn.out _ (by first | exact Below.refl _ _ | exact hb0.out _)).mono ?_; rintro e w' ⟨rfl, rfl⟩))
  go_ret2
  exact ⟨rfl, by first | exact Below.refl _ _ | exact hb1 | exact bthen (hb0.out _) hb1 | exact bthen hb1 (below_new w1 _) | exact bthen (bthen (hb0.out _) hb1) (below_new w1 _)⟩
theorem get_nob (h : Nob w V) (p : ByteArray) : Calls Tryd.prog 16 #[V, .string p] w fun e w' => e = .returned (.tuple #[.agg #[.int .i64 0, .int .i64 0, .int .i64 0, .int .i64 0, .int .i64 0, .string ⟨#[]⟩, .slice none 0 0, .int .i64 0], .int .i64 2]) ∧ Below w.heap.size w w' := by
  have hn := Lib.hid h
  have hb0 := Lib.hid (fun o => below_new w o)
  have HB := Lib.hid (BX.new w 53 #[.int .i64 0, .int .i64 0, .int .i64 0, .int .i64 0, .int .i64 0, .string ⟨#[]⟩, .slice none 0 0, .int .i64 0])
  clear h
  go_enter Tryd.func16, Tryd.ntmps16
  go_wp2_with (first
    | (go_at_call 29; refine (find_nob (hn.out.later (by first | exact Below.refl _ _ | exact hb0.out _)) _).mono ?_; rintro e w1 ⟨rfl, hb1⟩; have hbx := Lib.hid (HB.out.later hb1); have q0 : w1.cell? ⟨w.heap.size, 0, none⟩ = some (.int .i64 0) := hbx.out.cell rfl; have q1 : w1.cell? ⟨w.heap.size, 1, none⟩ = some (.int .i64 0) := hbx.out.cell rfl; have q2 : w1.cell? ⟨w.heap.size, 2, none⟩ = some (.int .i64 0) := hbx.out.cell rfl; have q3 : w1.cell? ⟨w.heap.size, 3, none⟩ = some (.int .i64 0) := hbx.out.cell rfl; have q4 : w1.cell? ⟨w.heap.size, 4, none⟩ = some (.int .i64 0) := hbx.out.cell rfl; have q5 : w1.cell? ⟨w.heap.size, 5, none⟩ = some (.string ⟨#[]⟩) := hbx.out.cell rfl; have q6 : w1.cell? ⟨w.heap.size, 6, none⟩ = some (.slice none 0 0) := hbx.out.cell rfl; have q7 : w1.cell? ⟨w.heap.size, 7, none⟩ = some (.int .i64 0) := hbx.out.cell rfl; have f0 := hbx.out.free 0; have f1 := hbx.out.free 1; have f2 := hbx.out.free 2; have f3 := hbx.out.free 3; have f4 := hbx.out.free 4; have f5 := hbx.out.free 5; have f6 := hbx.out.free 6; have f7 := hbx.out.free 7))
  refine bodyPost_ret (v := .tuple #[.agg #[.int .i64 0, .int .i64 0, .int .i64 0, .int .i64 0, .int .i64 0, .string ⟨#[]⟩, .slice none 0 0, .int .i64 0], .int .i64 2]) (by simp [results, Tryd.f16, go_sem, q0, q1, q2, q3, q4, q5, q6, q7]) rfl ?_
  have HB0 := bthen (hb0.out _) hb1
  exact ⟨rfl, ((((((((HB0.setCell (p := ⟨w.heap.size, 0, none⟩) (by simp) _).setCell (p := ⟨w.heap.size, 1, none⟩) (by simp) _).setCell (p := ⟨w.heap.size, 2, none⟩) (by simp) _).setCell (p := ⟨w.heap.size, 3, none⟩) (by simp) _).setCell (p := ⟨w.heap.size, 4, none⟩) (by simp) _).setCell (p := ⟨w.heap.size, 5, none⟩) (by simp) _).setCell (p := ⟨w.heap.size, 6, none⟩) (by simp) _).setCell (p := ⟨w.heap.size, 7, none⟩) (by simp) _)⟩
end
end Go.Proofs.YtihaeggeeeihnaaDoor
