/- WHAT ALL LAYERS' WALKS SHARE: the byte type's row, two slices of bytes held against each other, a slice of bytes made a string. -/
import Derived.Test.YtbianfjennnofaaDoorChecked
import Derived.Test.YtbianfjennnofaaDoorBase
import Derived.Shelf.Bytes.SlEqualAll
import Derived.Lib.Strings
import Derived.Lib.BytesEntry
import Derived.Lib.BufferWrite
import Derived.Lib.SlBuf
namespace Go.Proofs.YtbianfjennnofaaDoor
open Go.RowKit
set_option maxHeartbeats 400000
theorem info_u8 : (Tryd.prog.info? 5).map (fun i => (i.zero, i.size, i.bytes)) = some (some (.int .u8 0), 1, 1) := by kernel_rfl
theorem take_snocI (xs : List Int) (k : Nat) (h : k < xs.length) : xs.take (k + 1) = xs.take k ++ [xs.getD k 0] := by
  rw [List.take_succ_eq_append_getElem h]
  simp [List.getD, h]
/-- 'string(b)' of a slice that reads so. -/
theorem RB.conv {w : World} {B n : Nat} {A : Option Addr} {xs : List Int} (h : RB w B A n xs) (c : Nat) :
    (convert 25 9 (.slice A n c)).run Tryd.prog w = .ok (.string (strOfNums xs)) w := by
  rcases Nat.eq_zero_or_pos n with hn | hn
  · have hx := h.1
    subst hn
    obtain rfl : xs = [] := List.eq_nil_of_length_eq_zero hx
    exact run_convert_bytes_zero w 25 5 Tryd.underlying25 Tryd.underlying5 A c 9 Tryd.underlying9
  · obtain ⟨b, o, rfl, _, hc⟩ := h.2 hn
    exact run_convert_bytes_arg (P := Tryd.prog) w 25 5 Tryd.underlying25 Tryd.underlying5 b o n c xs h.1 hc 9 Tryd.underlying9
theorem str_eq {xs ys : List Int} (hx : Byt xs) (hy : Byt ys) (h : strOfNums xs = strOfNums ys) : xs = ys := by
  have h1 : (xs.map fun n => UInt8.ofNat n.toNat) = ys.map fun n => UInt8.ofNat n.toNat := by
    have := congrArg (fun b : ByteArray => b.data.toList) h
    simpa [strOfNums] using this
  have hl : xs.length = ys.length := by simpa using congrArg List.length h1
  apply List.ext_getElem hl
  intro i h2 h3
  have e := congrArg (fun l => l[i]?) h1
  simp [h2, h3] at e
  have a := hx i
  have b := hy i
  simp [List.getD, h2, h3] at a b
  have e2 := congrArg UInt8.toNat e
  simp at e2
  omega
end Go.Proofs.YtbianfjennnofaaDoor
