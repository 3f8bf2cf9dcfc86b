/- WALKS OF LAYER 7, SEVENTH PART: alive. -/
import Derived.Test.YthjcaeheicdgdaaB7d
import Derived.Lib.SlBytesConst
namespace Go.Proofs.Ythjcaeheicdgdaa
open Go.RowKit
set_option maxHeartbeats 1600000
set_option maxRecDepth 100000
set_option linter.unusedVariables false
theorem conv_a7 (w : World) : (convert 26 26 (.slice (some ⟨w.heap.size, 0, none⟩) 1 1)).run Try.prog (w.alloc (.cells #[.int .u8 97] 5)) = .ok (.slice (some ⟨w.heap.size, 0, none⟩) 1 1) (w.alloc (.cells #[.int .u8 97] 5 (1, 2))) :=
  Lib.run_convert_bytes_const w 26 5 #[.int .u8 97] 1 1 Try.underlying26 Try.underlying5
theorem cell_a7 (w : World) (e : TypeId) : (w.alloc (.cells #[.int .u8 97] e (1, 2))).cell? ⟨w.heap.size, 0, none⟩ = some (.int .u8 97) := by
  have h : (w.alloc (.cells #[.int .u8 97] e (1, 2))).heap[w.heap.size]? = some (.cells #[.int .u8 97] e (1, 2)) := by
    show (w.heap.push _)[w.heap.size]? = _
    simp
  unfold World.cell?
  rw [h]; rfl
theorem rep07 (k j : Nat) : ([97] ++ List.replicate k (0 : Int)).getD (j + 1) 0 = 0 := by
  simp [List.getD, List.getElem?_replicate]
  split <;> rfl
def XA : List Int := [97] ++ List.replicate 511 0
theorem fill_a7 : Bk.fill [97] = XA := by
  unfold Bk.fill XA
  rw [show (Bk.pad (([97] : List Int).length : Int)).toNat = 511 from by decide]
theorem len_XA : XA.length = 512 := by unfold XA; simp
theorem err_a7 : Bk.err 512 1 = 0 := by decide
theorem open_a7 : Bk.open_ XA 1 = [97] := by
  unfold Bk.open_
  rw [len_XA, if_pos err_a7]
  rfl
theorem clean_a7 : Bk.clean XA 1 = true := by
  refine Bk.clean_yes (by rw [len_XA]; exact err_a7) fun j hj => ?_
  rw [show (1 : Int).toNat + j = j + 1 from by omega, XA, rep07]
theorem conv97 (A2 : Option Addr) (c2 : Nat) (w2 : World) (hr2 : RB w2 w2.heap.size A2 1 [97]) : (convert 26 9 (.slice A2 1 c2)).run Try.prog w2 = .ok (.string ⟨#[97]⟩) w2 := by
  have := hr2.conv c2
  rw [show strOfNums [97] = ⟨#[97]⟩ from by decide +kernel] at this
  exact this
theorem alive_any (w : World) : Calls Try.prog 6 #[] w fun e w' => e = .returned (.bool true) ∧ Below w.heap.size w w' := by
  have cv := conv_a7 w
  have hb0 : Below w.heap.size w (w.alloc (.cells #[.int .u8 97] 5 (1, 2))) := (Below.refl _ w).alloc (Nat.le_refl _) _
  have hr0 : RB (w.alloc (.cells #[.int .u8 97] 5 (1, 2))) (w.alloc (.cells #[.int .u8 97] 5 (1, 2))).heap.size (some ⟨w.heap.size, 0, none⟩) 1 [97] :=
    ⟨rfl, fun _ => ⟨w.heap.size, 0, rfl, by simp, fun j hj => by rw [show j = 0 from by omega]; exact cell_a7 w _⟩⟩
  have f1 := fill_any _ 1 1 [97] _ hr0 (by omega)
  rw [fill_a7] at f1
  have F1 := Lib.hid f1; have HB0 := Lib.hid hb0
  clear f1 hb0 hr0
  go_enter Try.func6, Try.ntmps6
  go_wp2_with (go_at_call 10; (with_reducible refine F1.out.mono ?_); rintro e w1 ⟨v1, rfl, ho1, hb1⟩; obtain ⟨A1, c1, rfl, hr1, hl1, hm1⟩ := ho1.rb; rw [len_XA] at hr1 hl1 ⊢)
  have hb01 := bthen HB0.out hb1
  have o1 := open_any A1 512 c1 XA 1 w1 hr1 hl1 hm1 (by omega) (by omega) (by omega)
  rw [err_a7, open_a7] at o1
  have O1 := Lib.hid o1; have HB01 := Lib.hid hb01
  have cn := Lib.hid (fun W => count_any 513 W (by omega) (by omega))
  rw [show Bk.cnt 513 = 2 from by decide] at cn
  have pd := Lib.hid (fun W => pad_any 1 W (by omega) (by omega))
  rw [show Bk.pad 1 = 511 from by decide] at pd
  have en := Lib.hid (fun W => end_any W)
  have cl := Lib.hid (fun W (h : RB W W.heap.size A1 512 XA) => clean_any A1 512 c1 XA 1 W h hl1 hm1 (by omega) (by omega) (by omega))
  have HR1 := Lib.hid hr1
  rw [clean_a7] at cl
  clear o1 hb01 ho1 hb1 hr1
  go_wp2_with (first
    | (go_at_call 11; (with_reducible refine O1.out.mono ?_); rintro e w2 ⟨v2, rfl, ho2, hb2⟩; obtain ⟨A2, c2, rfl, hr2, hl2, hm2⟩ := ho2.rb
       have cs := conv97 A2 c2 w2 hr2
       have HR12 := Lib.hid ((HR1.out.below hb2).more hb2.size)
       have HB2 := Lib.hid (bthen HB01.out hb2)
       clear hr2 ho2 hb2)
    | (go_at_call 8; (with_reducible refine (cn.out _).mono ?_); rintro e w' ⟨rfl, rfl⟩)
    | (go_at_call 9; (with_reducible refine (pd.out _).mono ?_); rintro e w' ⟨rfl, rfl⟩)
    | (go_at_call 18; (with_reducible refine (en.out _).mono ?_); rintro e w3 ⟨v3, rfl, ho3, hb3⟩; obtain ⟨A3, c3, rfl, _⟩ := ho3.slice; have HB3 := Lib.hid (bthen HB2.out hb3); have HR13 := Lib.hid ((HR12.out.below hb3).more hb3.size); clear ho3 hb3)
    | (go_at_call 15; (with_reducible refine (cl.out _ HR13.out).mono ?_); rintro e w' ⟨rfl, rfl⟩))
  go_ret
  exact ⟨rfl, HB3.out⟩
end Go.Proofs.Ythjcaeheicdgdaa
