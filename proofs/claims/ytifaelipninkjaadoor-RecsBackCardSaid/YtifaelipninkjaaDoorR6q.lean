/- WALKS OF LAYER 6, SEVENTEENTH PART: the law RecsLays. -/
import Derived.Test.YtifaelipninkjaaDoorR6p
import Derived.Deep.RegionHeld3
namespace Go.Proofs.YtifaelipninkjaaDoor
open Go Go.RowKit
set_option linter.unusedVariables false
set_option maxHeartbeats 4000000
theorem far_no {l : List Rc.Rec} (h : farB l = false) : l.length ≤ 10 ∧ ∀ r ∈ l, r.1.size ≤ 3000 ∧ r.2.size ≤ 3000 := by
  unfold farB at h
  rw [Bool.or_eq_false_iff, decide_eq_false_iff_not] at h
  have h10 : l.length ≤ 10 := by omega
  refine ⟨h10, fun r hr => ?_⟩
  rw [List.take_of_length_le h10, List.any_eq_false] at h
  have := h.1 r hr
  simp at this
  omega
/-- Bytes that two values read as, held against each other. -/
theorem same_rv {w : World} {u v : Value} {l : Rc.Bs} (hu : RV w u l) (hv : RV w v l) (hl : l.length ≤ 1000000) :
    Calls Tryd.prog 15 #[u, v] w fun e w' => e = .returned (.bool true) ∧ Below w.heap.size w w' := by
  obtain ⟨A, c, rfl, h1, _, _⟩ := hu
  obtain ⟨B, d, rfl, h2, _, _⟩ := hv
  have := same_any A B _ _ c d _ _ w h1 h2 hl hl
  rw [decide_eq_true rfl] at this
  exact this
theorem findV_shape (key : ByteArray) (l : List Rc.Rec) : ∃ s ok, findV key l = .tuple #[.string s, .bool ok] := by
  unfold findV
  split
  · exact ⟨_, _, rfl⟩
  · exact ⟨_, _, rfl⟩
set_option maxRecDepth 100000 in
theorem lays_walk (A : Option Addr) (n c : Nat) (l : List Rc.Rec) (key : ByteArray) (w : World) (tb : Tab w) (hl : RL w w.heap.size A n l) (hc : n ≤ c) (hc2 : c ≤ maxLen) (hk : key.size ≤ maxLen) :
    Calls Tryd.prog 3 #[.slice A n c, .string key] w fun e w' => e = .returned (.bool true) ∧ Below w.heap.size w w' := by
  have hll := hl.1
  have AL := Lib.hid fun (W : World) (hW : Below w.heap.size w W) => alive6_any W (tb.on hW)
  have FA := far_any A n c l w hl hc hc2
  by_cases hfar : farB l = true
  · rw [hfar] at FA
    have FA := Lib.hid FA
    clear hfar
    go_enter Tryd.func3, Tryd.ntmps3
    go_wp2_with (first
      | (go_at_call 6; (with_reducible refine (FA.out).mono ?_); rintro e w1 ⟨rfl, hb1⟩)
      | (go_at_call 7; (with_reducible refine (AL.out _ hb1).mono ?_); rintro e w4 ⟨rfl, hb4⟩))
    go_ret
    exact ⟨rfl, bthen hb1 hb4⟩
  have hfar2 : farB l = false := by simpa using hfar
  rw [hfar2] at FA
  have FA := Lib.hid FA
  obtain ⟨h10, hsz⟩ := far_no hfar2
  clear hfar hfar2
  by_cases hkl : 3000 < key.size
  · have hkl' : (3000 : Int) < key.size := by omega
    go_enter Tryd.func3, Tryd.ntmps3
    go_wp2_with (first
      | (go_at_call 6; (with_reducible refine (FA.out).mono ?_); rintro e w1 ⟨rfl, hb1⟩)
      | (go_at_call 7; (with_reducible refine (AL.out _ hb1).mono ?_); rintro e w4 ⟨rfl, hb4⟩))
    go_ret
    exact ⟨rfl, bthen hb1 hb4⟩
  have hkl' : ¬ (3000 : Int) < key.size := by omega
  have HS := Lib.hid hsz
  have TH := Lib.hid fun (W : World) (hW : Below w.heap.size w W) => theirs_any A n c l W ((hl.below hW).more hW.size) (by omega)
  have LA := Lib.hid fun (W : World) (u : Value) (hW : Below w.heap.size w W) (hu : RLV W u l) => (show Calls Tryd.prog 8 #[u] W fun e w' => ∃ v, e = .returned (.tuple #[v, .int .i64 (Rc.layE l : Nat)]) ∧ RV w' v (Rc.layB l) ∧ Below W.heap.size W w' from by
    obtain ⟨A1, c1, rfl, h1, _, _⟩ := hu
    exact lay6_any A1 _ c1 l W (tb.on hW) h1 (by omega) (fun r hr => by have := HS.out r hr; omega))
  have RLA := Lib.hid fun (W : World) (hW : Below w.heap.size w W) => reflay6_any A n c l W ((hl.below hW).more hW.size) (by omega) (fun r hr => by have := HS.out r hr; omega)
  obtain ⟨fs, fok, hfv⟩ := findV_shape key l
  have FI := Lib.hid fun (W : World) (u : Value) (hu : RLV W u l) => (show Calls Tryd.prog 11 #[u, .string key] W fun e w' => e = .returned (.tuple #[.string fs, .bool fok]) ∧ W = w' from by
    obtain ⟨A1, c1, rfl, h1, _, _⟩ := hu
    have := find6_any A1 _ c1 l key W h1 (by omega)
    rw [hfv] at this
    exact this)
  have RFI := Lib.hid fun (W : World) (hW : Below w.heap.size w W) => (show Calls Tryd.prog 12 #[.slice A n c, .string key] W fun e w' => e = .returned (.tuple #[.string fs, .bool fok]) ∧ W = w' from by
    have := reffind6_any A n c l key W ((hl.below hW).more hW.size) (by omega)
    rw [hfv] at this
    exact this)
  have hlb : (Rc.layB l).length ≤ 1000000 := by
    unfold Rc.layB
    split
    · have := Rc.flat_len l; omega
    · simp
  have SAB := Lib.hid fun (W : World) (u v : Value) (hu : RV W u (Rc.layB l)) (hv : RV W v (Rc.layB l)) => same_rv hu hv hlb
  have TB := Lib.hid tb
  clear hfv hlb tb hsz hkl
  generalize Rc.layB l = lb at *
  generalize Rc.layE l = le at *
  have hff : ((fs.toList == fs.toList) : Bool) = true := by simp
  go_enter Tryd.func3, Tryd.ntmps3
  go_wp2_with (first
    | (go_at_call 6; (with_reducible refine (FA.out).mono ?_); rintro e w1 ⟨rfl, hb1⟩)
    | (go_at_call 9; (with_reducible refine (TH.out _ hb1).mono ?_); rintro e w2 ⟨u2, rfl, ho2, hb2⟩; replace hb2 := bthen hb1 hb2)
    | (go_at_call 8; (with_reducible refine (LA.out _ _ hb2 ho2.rlv).mono ?_); rintro e w3 ⟨u3, rfl, hv3, hb3⟩; replace hb3 := bthen hb2 hb3)
    | (go_at_call 10; (with_reducible refine (RLA.out _ hb3).mono ?_); rintro e w4 ⟨u4, rfl, hv4, hb4⟩; have hv34 := hv3.later hb4; replace hb4 := bthen hb3 hb4)
    | (go_at_call 9; (with_reducible refine (TH.out _ hb4).mono ?_); rintro e w5 ⟨u5, rfl, ho5, hb5⟩; have hv35 := hv34.later hb5; have hv45 := hv4.later hb5; replace hb5 := bthen hb4 hb5)
    | (go_at_call 11; (with_reducible refine (FI.out _ _ ho5.rlv).mono ?_); rintro e w6 ⟨rfl, rfl⟩)
    | (go_at_call 12; (with_reducible refine (RFI.out _ hb5).mono ?_); rintro e w7 ⟨rfl, rfl⟩))
  go_loopw [53] (fun i wr => ∃ j : Nat, j ≤ n ∧ i = .int .i64 j ∧ Below w5.heap.size w5 wr) (fun i _ => n - (intOf i).toNat)
  case atStart => exact ⟨0, by omega, rfl, Below.refl _ _⟩
  case round =>
    obtain ⟨j, hj, rfl, hbw⟩ := hrel
    have hbr := bthen hb5 hbw
    by_cases hlt : j < n
    · have hlt' : (j : Int) < n := by omega
      obtain ⟨b, o, k, v, rfl, hbl, hjl, q0, q1⟩ := (hl.below hbr).at_ hlt
      have hkv := HS.out (k, v) (List.mem_of_getElem? hjl)
      have hk1 : k.size ≤ 3000 := hkv.1
      have hv1 : v.size ≤ 3000 := hkv.2
      clear hkv
      have hbx : BX (wr.alloc (.cells #[.string k, .string v] 37)) wr.heap.size 37 #[.string k, .string v] := BX.new _ _ _
      have hb0 : Below w.heap.size w (wr.alloc (.cells #[.string k, .string v] 37)) := hbr.alloc hbr.size _
      have ol := Rc.one_len (k, v)
      have ob := (Rc.lenR_bounds (k, v)).1
      have ON := Lib.hid fun (W : World) (hW : Below (wr.alloc (.cells #[.string k, .string v] 37)).heap.size (wr.alloc (.cells #[.string k, .string v] 37)) W) => one6_any k v W (TB.out.on (bthen hb0 hW)) (by omega) (by omega)
      have RON := Lib.hid fun (W : World) => refone6_any k v W (by omega) (by omega)
      have MA := Lib.hid fun (W : World) => rmay_any k v W
      have RMA := Lib.hid fun (W : World) => refrmay_any k v W (by omega)
      have LE := Lib.hid fun (W : World) (hW : Below (wr.alloc (.cells #[.string k, .string v] 37)).heap.size (wr.alloc (.cells #[.string k, .string v] 37)) W) => len6_any k v W (TB.out.on (bthen hb0 hW)) (by omega) (by omega)
      have ALLS := Lib.hid fun (W : World) (hW : Below (wr.alloc (.cells #[.string k, .string v] 37)).heap.size (wr.alloc (.cells #[.string k, .string v] 37)) W) => (⟨(hbx.later hW).cell rfl, (hbx.later hW).cell rfl⟩ : W.cell? ⟨wr.heap.size, 0, none⟩ = some (.string k) ∧ W.cell? ⟨wr.heap.size, 1, none⟩ = some (.string v))
      have hbl1 : (Rc.oneL (k, v)).length ≤ 1000000 := by omega
      rw [← ol] at LE
      have SM := Lib.hid fun (W : World) (u u' : Value) (hu : RV W u (Rc.oneL (k, v))) (hv : RV W u' (Rc.oneL (k, v))) => same_rv hu hv hbl1
      clear hjl hbx ol ob hbl1 hk1 hv1
      generalize Rc.oneL (k, v) = one at *
      generalize Rc.mayN (k, v) = m at *
      go_wp2_with (first
        | (go_at_call 13; (with_reducible refine (ON.out _ (Below.refl _ _)).mono ?_); rintro e w8 ⟨u8, rfl, hv8, hb8⟩; obtain ⟨p0, p1⟩ := ALLS.out _ hb8)
        | (go_at_call 14; (with_reducible refine (RON.out _).mono ?_); rintro e w9 ⟨u9, rfl, ⟨A9, c9, rfl, hr9, h9a, h9b⟩, hb9⟩; have hv9 : RV w9 (.slice A9 one.length c9) one := ⟨A9, c9, rfl, hr9, h9a, h9b⟩; have hv89 := hv8.later hb9; replace hb9 := bthen hb8 hb9; obtain ⟨p2, p3⟩ := ALLS.out _ hb9))
      have hacc : Below (wr.alloc (.cells #[.string k, .string v] 37)).heap.size (wr.alloc (.cells #[.string k, .string v] 37)) w9.drew := hb9.drew
      have SMD := Lib.hid (SM.out w9.drew _ _ hv89 hv9)
      go_region_held3 (fun w' => w'.cell? ⟨wr.heap.size, 0, none⟩ = some (.string k) ∧ w'.cell? ⟨wr.heap.size, 1, none⟩ = some (.string v))
        (first | go_keep | (exact ALLS.out _ hacc))
        (first
          | (go_at_call 15; (with_reducible refine (SMD.out).mono ?_); rintro e wna ⟨rfl, hbna⟩; replace hacc := bthen hacc hbna)
          | (go_at_call 16; (with_reducible refine (MA.out _).mono ?_); rintro e wnb ⟨rfl, hbnb⟩; replace hacc := bthen hacc hbnb)
          | (go_at_call 17; (with_reducible refine (RMA.out _).mono ?_); rintro e wnc ⟨rfl, hbnc⟩; replace hacc := bthen hacc hbnc)
          | (go_at_call 18; (with_reducible refine (LE.out _ hacc).mono ?_); rintro e wnd ⟨rfl, hbnd⟩; replace hacc := bthen hacc hbnd))
      all_goals
        have hfin := (hbw.alloc hbw.size (.cells #[.string k, .string v] 37)).trans (hacc.mono (by have := hbw.size; simp; omega))
        go_wp2
        go_roundw
        case rel => exact ⟨j + 1, by omega, by go_num, hfin⟩
        case measure => simp [intOf]; omega
    · have hlt' : ¬ (j : Int) < n := by omega
      have SB2 := Lib.hid (SAB.out _ _ _ (hv35.later hbw) (hv45.later hbw))
      go_wp2_with (first
        | (go_at_call 15; (with_reducible refine (SB2.out).mono ?_); rintro e wna ⟨rfl, hbna⟩; have hbn := bthen hbr hbna)
        | (go_at_call 7; (with_reducible refine (AL.out _ hbn).mono ?_); rintro e wnb ⟨rfl, hbnb⟩))
      go_ret
      exact ⟨rfl, bthen hbn hbnb⟩
end Go.Proofs.YtifaelipninkjaaDoor
