/- WALKS OF LAYER 6, FIFTEENTH PART: the laws' probe. -/
import Derived.Test.YtifaelipninkjaaDoorR6n
namespace Go.Proofs.YtifaelipninkjaaDoor
open Go Go.RowKit
set_option linter.unusedVariables false
set_option maxHeartbeats 2000000
def rAB : Rc.Rec := (⟨#[97]⟩, ⟨#[98]⟩)
def rACD : Rc.Rec := (⟨#[97]⟩, ⟨#[99, 61, 100]⟩)
def rA : Rc.Rec := (⟨#[97]⟩, ⟨#[]⟩)
theorem mayAB : Rc.mayN rAB = 0 := by decide +kernel
theorem mayACD : Rc.mayN rACD = 0 := by decide +kernel
theorem mayA : Rc.mayN rA = 0 := by decide +kernel
theorem lenAB : Rc.lenR rAB = 6 := by decide +kernel
theorem lenACD : Rc.lenR rACD = 8 := by decide +kernel
theorem lenA : Rc.lenR rA = 5 := by decide +kernel
theorem oneAB : Rc.oneL rAB = [54, 32, 97, 61, 98, 10] := by
  unfold Rc.oneL
  rw [if_pos mayAB, lenAB, Rc.dec_lt (by omega)]
  rfl
theorem oneACD : Rc.oneL rACD = [56, 32, 97, 61, 99, 61, 100, 10] := by
  unfold Rc.oneL
  rw [if_pos mayACD, lenACD, Rc.dec_lt (by omega)]
  rfl
theorem parse14 : Rc.parse [54, 32, 97, 61, 98, 10, 56, 32, 97, 61, 99, 61, 100, 10] = ([rAB, rACD], 0) := by
  have h := Rc.lay_parse [rAB, rACD] (by decide +kernel)
  have e : Rc.flat [rAB, rACD] = [54, 32, 97, 61, 98, 10, 56, 32, 97, 61, 99, 61, 100, 10] := by
    unfold Rc.flat
    rw [List.flatMap_cons, List.flatMap_cons, List.flatMap_nil, oneAB, oneACD]
    rfl
  rw [e] at h
  exact h
theorem find14 : findV ⟨#[97]⟩ [rAB, rACD] = .tuple #[.string ⟨#[99, 61, 100]⟩, .bool true] := by
  unfold findV
  have : Rc.findR ⟨#[97]⟩ [rAB, rACD] = some ⟨#[99, 61, 100]⟩ := by decide +kernel
  rw [this]
def C14 : Array Value := #[.int .u8 54, .int .u8 32, .int .u8 97, .int .u8 61, .int .u8 98, .int .u8 10, .int .u8 56, .int .u8 32, .int .u8 97, .int .u8 61, .int .u8 99, .int .u8 61, .int .u8 100, .int .u8 10]
theorem conv14 (w : World) : (convert 25 25 (.slice (some ⟨w.heap.size, 0, none⟩) 14 14)).run Tryd.prog (w.alloc (.cells C14 5)) = .ok (.slice (some ⟨w.heap.size, 0, none⟩) 14 14) (w.alloc (.cells C14 5 (14, 15))) :=
  Lib.run_convert_bytes_const w 25 5 C14 14 14 Tryd.underlying25 Tryd.underlying5
theorem rb14 (w : World) (e : TypeId) : RB (w.alloc (.cells C14 e (14, 15))) (w.alloc (.cells C14 e (14, 15))).heap.size (some ⟨w.heap.size, 0, none⟩) 14 (Rc.ints [54, 32, 97, 61, 98, 10, 56, 32, 97, 61, 99, 61, 100, 10]) := by
  refine ⟨rfl, fun _ => ⟨w.heap.size, 0, rfl, by simp, fun j hj => ?_⟩⟩
  have h : (w.alloc (.cells C14 e (14, 15))).heap[w.heap.size]? = some (.cells C14 e (14, 15)) := by
    show (w.heap.push _)[w.heap.size]? = _
    simp
  unfold World.cell?
  rw [h]
  have : j = 0 ∨ j = 1 ∨ j = 2 ∨ j = 3 ∨ j = 4 ∨ j = 5 ∨ j = 6 ∨ j = 7 ∨ j = 8 ∨ j = 9 ∨ j = 10 ∨ j = 11 ∨ j = 12 ∨ j = 13 := by omega
  rcases this with rfl | rfl | rfl | rfl | rfl | rfl | rfl | rfl | rfl | rfl | rfl | rfl | rfl | rfl <;> rfl
set_option maxRecDepth 100000 in
theorem alive6_any (w : World) (tb : Tab w) : Calls Tryd.prog 7 #[] w fun e w' => e = .returned (.bool true) ∧ Below w.heap.size w w' := by
  have ON := one6_any ⟨#[97]⟩ ⟨#[98]⟩ w tb (by decide) (by decide)
  rw [show Rc.mayN (⟨#[97]⟩, ⟨#[98]⟩) = 0 from mayAB, show Rc.oneL (⟨#[97]⟩, ⟨#[98]⟩) = _ from oneAB] at ON
  have PA := fun (W : World) (hW : Below w.heap.size w W) => parse_any (some ⟨W.heap.size, 0, none⟩) 14 14 _ (W.alloc (.cells C14 5 (14, 15))) (tb.on (hW.alloc hW.size _)) (rb14 W 5) (Nat.le_refl _) (by unfold maxLen; omega) (by omega)
  rw [parse14] at PA
  have LE := fun (W : World) (hW : Below w.heap.size w W) => len6_any ⟨#[97]⟩ ⟨#[]⟩ W (tb.on hW) (by decide) (by decide)
  rw [show Rc.lenR (⟨#[97]⟩, ⟨#[]⟩) = 5 from lenA] at LE
  have cvs := conv14
  unfold C14 at PA cvs
  have FI := Lib.hid fun (A : Option Addr) (c : Nat) (W : World) (h : RL W W.heap.size A 2 [rAB, rACD]) => find6_any A 2 c _ ⟨#[97]⟩ W h (by omega)
  rw [find14] at FI
  have fx : ∀ (w1 w2 : World) (A1 : Option Addr) (c1 : Nat) (u2 : Value), Below w.heap.size w w1 → RB w1 w1.heap.size A1 6 (Rc.ints [54, 32, 97, 61, 98, 10]) → Below (w1.alloc (.cells C14 5 (14, 15))).heap.size (w1.alloc (.cells C14 5 (14, 15))) w2 → RO w2 (w1.alloc (.cells C14 5 (14, 15))).heap.size 39 u2 [rAB, rACD] →
      Below w.heap.size w w2 ∧ (convert 25 9 (.slice A1 6 c1)).run Tryd.prog w2 = .ok (.string ⟨#[54, 32, 97, 61, 98, 10]⟩) w2 ∧ ∃ A2 c2, u2 = .slice A2 2 c2 ∧ RL w2 w2.heap.size A2 2 [rAB, rACD] := fun w1 w2 A1 c1 u2 h1 h2 h3 h4 => by
    have hb := ((Below.refl w1.heap.size w1).alloc (Nat.le_refl _) (.cells C14 5 (14, 15))).trans (h3.mono (by simp))
    refine ⟨h1.trans (hb.mono h1.size), ?_, ?_⟩
    · have := ((h2.below hb).more hb.size).conv c1
      rw [Rc.strOf_ints] at this
      exact this
    · obtain ⟨A2, c2, e, hr, _, _⟩ := h4.rlv
      exact ⟨A2, c2, e, hr⟩
  unfold C14 at fx
  have FX := Lib.hid fx; clear fx
  have ON := Lib.hid ON; have PA := Lib.hid PA; have LE := Lib.hid LE
  clear tb
  go_enter Tryd.func7, Tryd.ntmps7
  go_wp2_with (first
    | (go_at_call 13; (with_reducible refine (ON.out).mono ?_); rintro e w1 ⟨u1, rfl, ⟨A1, c1, rfl, hrb1, hc1, hd1⟩, hb1⟩)
    | (go_at_call 19; (with_reducible refine (PA.out _ hb1).mono ?_); rintro e w2 ⟨u2, rfl, ho2, hb2⟩; obtain ⟨hbw2, cv2, A2, c2, rfl, hrl2⟩ := FX.out w1 w2 A1 c1 u2 hb1 hrb1 hb2 ho2)
    | (go_at_call 11; (with_reducible refine (FI.out _ _ _ hrl2).mono ?_); rintro e w3 ⟨rfl, rfl⟩)
    | (go_at_call 18; (with_reducible refine (LE.out _ hbw2).mono ?_); rintro e w4 ⟨rfl, hb4⟩))
  go_ret
  exact ⟨rfl, hbw2.trans (hb4.mono hbw2.size)⟩
end Go.Proofs.YtifaelipninkjaaDoor
