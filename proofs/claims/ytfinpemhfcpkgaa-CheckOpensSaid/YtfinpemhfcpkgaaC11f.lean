/- WALKS OF LAYER 11, SIXTH PART: alive. -/
import Derived.Test.YtfinpemhfcpkgaaC11e
import Derived.Lib.SlBytesConst
namespace Go.Proofs.Ytfinpemhfcpkgaa
open Go.RowKit
set_option maxHeartbeats 1600000
set_option maxRecDepth 100000
set_option linter.unusedVariables false
def C9 : Array Value := #[.int .u8 49, .int .u8 50, .int .u8 51, .int .u8 52, .int .u8 53, .int .u8 54, .int .u8 55, .int .u8 56, .int .u8 57]
theorem conv9 (w : World) : (convert 22 22 (.slice (some ⟨w.heap.size, 0, none⟩) 9 9)).run Try.prog (w.alloc (.cells C9 5)) = .ok (.slice (some ⟨w.heap.size, 0, none⟩) 9 9) (w.alloc (.cells C9 5 (9, 10))) :=
  Lib.run_convert_bytes_const w 22 5 C9 9 9 Try.underlying22 Try.underlying5
theorem rb9 (w : World) (e : TypeId) : RB (w.alloc (.cells C9 e (9, 10))) (w.alloc (.cells C9 e (9, 10))).heap.size (some ⟨w.heap.size, 0, none⟩) 9 Ck.nine := by
  refine ⟨rfl, fun _ => ⟨w.heap.size, 0, rfl, by simp, fun j hj => ?_⟩⟩
  have h : (w.alloc (.cells C9 e (9, 10))).heap[w.heap.size]? = some (.cells C9 e (9, 10)) := by
    show (w.heap.push _)[w.heap.size]? = _
    simp
  unfold World.cell?
  rw [h]
  have : j = 0 ∨ j = 1 ∨ j = 2 ∨ j = 3 ∨ j = 4 ∨ j = 5 ∨ j = 6 ∨ j = 7 ∨ j = 8 := by omega
  rcases this with rfl | rfl | rfl | rfl | rfl | rfl | rfl | rfl | rfl <;> rfl
theorem alive11_any (w : World) : Calls Try.prog 7 #[] w fun e w' => e = .returned (.bool true) ∧ Below w.heap.size w w' := by
  have cv := conv9
  have se : Hid (∀ W, Calls Try.prog 15 #[.slice (some ⟨W.heap.size, 0, none⟩) 9 9] (W.alloc (.cells C9 5 (9, 10))) fun e w' => ∃ A c, e = .returned (.slice A 13 c) ∧ RB w' w'.heap.size A 13 (Ck.sealed Ck.nine) ∧ 13 ≤ c ∧ c ≤ maxLen ∧ Below W.heap.size W w') := fun W => by
    have hb : Below W.heap.size W (W.alloc (.cells C9 5 (9, 10))) := (Below.refl _ W).alloc (Nat.le_refl _) _
    refine (seal_any _ 9 9 Ck.nine _ (rb9 W _) Ck.nine_byt (Nat.le_refl _) (by unfold maxLen; omega) (by omega)).mono fun e w' ⟨v, he, ho, hb2⟩ => ?_
    obtain ⟨A, c, rfl, hr, h1, h2⟩ := ho.slice
    exact ⟨A, c, he, hr, h1, h2, bthen hb hb2⟩
  have su : Hid (∀ W, Calls Try.prog 8 #[.slice (some ⟨W.heap.size, 0, none⟩) 9 9] (W.alloc (.cells C9 5 (9, 10))) fun e w' => e = .returned (.int .u32 3421780262) ∧ Below W.heap.size W w') := fun W => by
    have hb : Below W.heap.size W (W.alloc (.cells C9 5 (9, 10))) := (Below.refl _ W).alloc (Nat.le_refl _) _
    have h := sum_any _ 9 9 Ck.nine _ (rb9 W 5) Ck.nine_byt (Nat.le_refl _) (by unfold maxLen; omega)
    rw [Ck.nine_sum] at h
    exact h.mono fun e w' ⟨he, hb2⟩ => ⟨he, bthen hb hb2⟩
  have op : Hid (∀ W A c, RB W W.heap.size A 13 (Ck.sealed Ck.nine) → 13 ≤ c → c ≤ maxLen → Calls Try.prog 12 #[.slice A 13 c] W fun e w' => ∃ A2 c2, e = .returned (.tuple #[.slice A2 9 c2, .int .i64 0]) ∧ Below W.heap.size W w') := fun W A c hr h1 h2 => by
    refine (copen_any A 13 c _ W hr (Ck.sealed_byt Ck.nine_byt) h1 h2 (by omega)).mono fun e w' ⟨v, he, ho, hb⟩ => ?_
    rw [Ck.sealed_open] at ho
    rw [Ck.sealed_err] at he
    obtain ⟨A2, c2, rfl, _⟩ := ho.rb
    exact ⟨A2, c2, he, hb⟩
  unfold C9 at cv se su
  go_enter Try.func7, Try.ntmps7
  go_wp2_with (first
    | (go_at_call 15; (with_reducible refine (se.out _).mono ?_); rintro e w1 ⟨A1, c1, rfl, hr1, h1, h2, hb1⟩; have HR1 := Lib.hid hr1; have HB1 := Lib.hid hb1; have HM1 := Lib.hid h2; clear hr1 hb1 h2)
    | (go_at_call 12; (with_reducible refine (op.out _ _ _ HR1.out h1 HM1.out).mono ?_); rintro e w2 ⟨A2, c2, rfl, hb2⟩; have HB2 := Lib.hid (bthen HB1.out hb2); obtain ⟨g1, o1, rfl, _, _⟩ := HR1.out.at_ (k := 9) (by omega); have HR2 := Lib.hid ((HR1.out.below hb2).more hb2.size); clear hb2)
    | (go_at_call 8; (with_reducible refine (su.out _).mono ?_); rintro e w3 ⟨rfl, hb3⟩; have HB3 := Lib.hid (bthen HB2.out hb3); have hc9 := (HR2.out.below hb3).at_' (k := 9) (by omega); rw [Ck.nine_at] at hc9; clear hb3))
  go_ret
  exact ⟨rfl, HB3.out⟩
end Go.Proofs.Ytfinpemhfcpkgaa
