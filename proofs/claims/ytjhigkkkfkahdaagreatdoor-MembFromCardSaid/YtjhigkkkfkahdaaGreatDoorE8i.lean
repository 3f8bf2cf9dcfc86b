/- WALKS OF LAYER 8, NINTH PART: how many bytes a member has; the member of a header, the code's and the reference's. -/
import Derived.Test.YtjhigkkkfkahdaaGreatDoorE8g
import Derived.Test.YtjhigkkkfkahdaaGreatDoorGb7
import Derived.Deep.RegionHeld3
namespace Go.Proofs.YtjhigkkkfkahdaaGreatDoor
open Go Go.RowKit
set_option maxHeartbeats 1600000
set_option maxRecDepth 100000
set_option linter.unusedVariables false
theorem mbLow2 {w W : World} {o : Obj} (h : Below (w.heap.size + 1) (w.alloc o) W) : Below w.heap.size w W := mb_below (by simpa using h)
theorem mbBox2 {w W : World} {T : TypeId} {cs : Array Value} (h : Below (w.heap.size + 1) (w.alloc (.cells cs T)) W) : BX W w.heap.size T cs := mb_box (by simpa using h)
theorem mlen_any (p l : ByteArray) (k m u g t : Int) (A : Option Addr) (n c : Nat) (q : Nat) (xs : List Int) (w : World) (tb : Tab w) (ha : RB w w.heap.size A n xs) (hp : p.size ≤ 1000) (hl : l.size ≤ 1000) (hn : n ≤ 100000) (hq : Sf.IsCut p q) :
    Calls Tryz.prog 30 #[.agg #[.string p, .int .i64 k, .int .i64 m, .int .i64 u, .int .i64 g, .int .i64 t, .string l, .slice A n c]] w fun e w' => e = .returned (.int .i64 ((Mb.layM p l q k m u g t xs).length : Int)) ∧ Below w.heap.size w w' := by
  have b0 := mb_new w (.cells #[.string p, .int .i64 k, .int .i64 m, .int .i64 u, .int .i64 g, .int .i64 t, .string l, .slice A n c] 35)
  have cl := mlay_any p l k m u g t A n c q xs (w.alloc (.cells #[.string p, .int .i64 k, .int .i64 m, .int .i64 u, .int .i64 g, .int .i64 t, .string l, .slice A n c] 35)) (tb.on b0) ((ha.below b0).more b0.size) hp hl hn hq
  generalize Mb.layM p l q k m u g t xs = Y at *
  generalize Mb.may p l k m u g t n = E at *
  have CL := Lib.hid cl
  clear cl b0 tb ha
  go_enter Tryz.func30, Tryz.ntmps30
  go_wp2_with (go_at_call 14; (with_reducible refine (CL.out).mono ?_); rintro e w1 ⟨v1, rfl, ho1, hb1⟩; obtain ⟨A1, c1, rfl, _, _, _⟩ := ho1.rb)
  go_ret
  exact ⟨rfl, mb_below hb1⟩
end Go.Proofs.YtjhigkkkfkahdaaGreatDoor
