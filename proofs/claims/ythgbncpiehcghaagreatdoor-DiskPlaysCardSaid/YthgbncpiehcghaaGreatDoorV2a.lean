/- WALKS OF LAYER 2, FIRST PART: the first byte 0 of a text, of bytes; a text laid; a field read. -/
import Derived.Test.YthgbncpiehcghaaGreatDoorCm
import Derived.Test.YthgbncpiehcghaaGreatDoorGn2
import Derived.Lib.BytesEntry
import Derived.Lib.SlBuf
import Derived.Shelf.Bytes.SlIndexAt
namespace Go.Proofs.YthgbncpiehcghaaGreatDoor
open Go.RowKit
set_option maxHeartbeats 400000
set_option maxRecDepth 100000
theorem refzero_any (s : ByteArray) (w : World) (hs : s.size ≤ 1000000) :
    Calls Tryz.prog 174 #[.string s] w fun e w' => e = .returned (.int .i64 (Sf.zb s.data.toList)) ∧ w = w' := by
  have hle := Sf.zb_size s
  have hlt := Lib.hid (Sf.zb_lt s)
  have hat := Lib.hid (Sf.zb_at s)
  generalize hz : Sf.zb s.data.toList = z at *
  have HZ := Lib.hid hz; clear hz
  go_enter Tryz.func174, Tryz.ntmps174
  go_wp2
  go_loop [3] (fun i => ∃ k : Nat, k ≤ z ∧ i = .int .i64 k) (fun i => s.size - (intOf i).toNat)
  case atStart => exact ⟨0, by omega, rfl⟩
  case round =>
    obtain ⟨k, hk, rfl⟩ := hrel
    by_cases h1 : k < s.size
    · by_cases h2 : k < z
      · have g := hlt.out k h1 h2
        go_wp2
        go_round
        case rel => exact ⟨k + 1, by omega, by go_num⟩
        case measure => simp [intOf]; omega
      · obtain rfl : k = z := by omega
        have g := hat.out h1
        go_wp2
        go_ret
        exact ⟨rfl, rfl⟩
    · obtain rfl : k = z := by omega
      have e : (s.size : Int) = k := by omega
      have E := Lib.hid e; clear e
      go_wp2
      go_ret
      exact ⟨ret_int E.out, rfl⟩
theorem ibslite_any (s : ByteArray) (c : Int) (w : World) :
    Calls Tryz.prog 137 #[.string s, .int .u8 c] w fun e w' => e = .returned (.int .i64 (Lib.indexByte s.data.toList c.toNat.toUInt8)) ∧ w = w' := by
  go_enter Tryz.func137, Tryz.ntmps137
  go_wp2
  rw [run_callFunc_extern Tryz.func149 (by kernel_rfl) (by kernel_rfl) (by kernel_rfl) (e := Extern.BytealgIndexByte.indexByte) (by kernel_rfl), Lib.run_indexByteString]
  simp only [Result.andThen]
  rw [Oper.upon_value]
  go_wp2
  go_ret
  exact ⟨rfl, rfl⟩
theorem ibs_any (s : ByteArray) (c : Int) (w : World) :
    Calls Tryz.prog 111 #[.string s, .int .u8 c] w fun e w' => e = .returned (.int .i64 (Lib.indexByte s.data.toList c.toNat.toUInt8)) ∧ w = w' := by
  go_enter Tryz.func111, Tryz.ntmps111
  go_wp2_with (go_at_call 137; refine (ibslite_any _ _ _).mono ?_; rintro e w' ⟨rfl, rfl⟩)
  go_ret
  exact ⟨rfl, rfl⟩
end Go.Proofs.YthgbncpiehcghaaGreatDoor
