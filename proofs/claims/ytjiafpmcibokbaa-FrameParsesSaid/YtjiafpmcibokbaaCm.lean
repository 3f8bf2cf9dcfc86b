/- WHAT ALL LAYERS' WALKS SHARE: the byte type's row, two slices of bytes held against each other, a slice of bytes made a string. -/
import Derived.Test.YtjiafpmcibokbaaChecked
import Derived.Test.YtjiafpmcibokbaaBase
import Derived.Shelf.Bytes.SlEqualAll
import Derived.Lib.Strings
import Derived.Lib.BytesEntry
import Derived.Lib.BufferWrite
import Derived.Lib.SlBuf
namespace Go.Proofs.Ytjiafpmcibokbaa
open Go.RowKit
set_option maxHeartbeats 400000
theorem info_u8 : (Try.prog.info? 5).map (fun i => (i.zero, i.size, i.bytes)) = some (some (.int .u8 0), 1, 1) := by kernel_rfl
theorem take_snocI (xs : List Int) (k : Nat) (h : k < xs.length) : xs.take (k + 1) = xs.take k ++ [xs.getD k 0] := by
  rw [List.take_succ_eq_append_getElem h]
  simp [List.getD, h]
/-- 'string(b)' of a slice that reads so. -/
theorem RB.conv {w : World} {B n : Nat} {A : Option Addr} {xs : List Int} (h : RB w B A n xs) (c : Nat) :
    (convert 28 9 (.slice A n c)).run Try.prog w = .ok (.string (strOfNums xs)) w := by
  rcases Nat.eq_zero_or_pos n with hn | hn
  · have hx := h.1
    subst hn
    obtain rfl : xs = [] := List.eq_nil_of_length_eq_zero hx
    exact run_convert_bytes_zero w 28 5 Try.underlying28 Try.underlying5 A c 9 Try.underlying9
  · obtain ⟨b, o, rfl, _, hc⟩ := h.2 hn
    exact run_convert_bytes_arg (P := Try.prog) w 28 5 Try.underlying28 Try.underlying5 b o n c xs h.1 hc 9 Try.underlying9
theorem str_eq {xs ys : List Int} (hx : Byt xs) (hy : Byt ys) (h : strOfNums xs = strOfNums ys) : xs = ys := by
  have h1 : (xs.map fun n => UInt8.ofNat n.toNat) = ys.map fun n => UInt8.ofNat n.toNat := by
    have := congrArg (fun b : ByteArray => b.data.toList) h
    simpa [strOfNums] using this
  have hl : xs.length = ys.length := by simpa using congrArg List.length h1
  apply List.ext_getElem hl
  intro i h2 h3
  have e := congrArg (fun l => l[i]?) h1
  simp [h2, h3] at e
  have a := hx i
  have b := hy i
  simp [List.getD, h2, h3] at a b
  have e2 := congrArg UInt8.toNat e
  simp at e2
  omega
/-- Two slices of bytes, held against each other byte by byte. -/
theorem same_any (A B : Option Addr) (n m c d : Nat) (xs ys : List Int) (w : World) (ha : RB w w.heap.size A n xs) (hb : RB w w.heap.size B m ys) (hn : n ≤ 1000000) (_hm : m ≤ 1000000) :
    Calls Try.prog 12 #[.slice A n c, .slice B m d] w fun e w' => e = .returned (.bool (decide (xs = ys))) ∧ Below w.heap.size w w' := by
  have hxl := ha.1
  have hyl := hb.1
  by_cases hne : n = m
  · have g1 : ((n : Int) != (m : Int)) = false := by simp; omega
    have HNE := Lib.hid hne; clear hne
    have HXL := Lib.hid hxl; have HYL := Lib.hid hyl; clear hxl hyl
    go_enter Try.func12, Try.ntmps12
    go_wp2
    go_loopw [5] (fun i wr => ∃ k : Nat, k ≤ n ∧ i = .int .i64 k ∧ xs.take k = ys.take k ∧ Below w.heap.size w wr) (fun i _ => n - (intOf i).toNat)
    case atStart => exact ⟨0, by omega, rfl, by simp, Below.refl _ _⟩
    case round =>
      obtain ⟨k, hk, rfl, htk, hbel⟩ := hrel
      have HTK := Lib.hid htk; clear htk
      by_cases hlt : k < n
      · obtain ⟨ba, oa, rfl, hba, hca⟩ := (ha.below hbel).at_ hlt
        obtain ⟨bb, ob, rfl, hbb, hcb⟩ := (hb.below hbel).at_ (show k < m by have := HNE.out; omega)
        have hkm : (k : Int) < (m : Int) := by have := HNE.out; omega
        have hkn : (k : Int) < (n : Int) := by omega
        generalize hx : xs.getD k 0 = x at *
        generalize hy : ys.getD k 0 = y at *
        have HX := Lib.hid hx; have HY := Lib.hid hy; clear hx hy
        by_cases hxy : x = y
        · subst hxy
          go_wp2
          go_quiet (fail)
          go_wp2
          go_roundw
          case rel =>
            refine ⟨k + 1, by omega, by go_num, ?_, by first | exact hbel | exact below_drewN hbel _ | exact hbel.drew⟩
            rw [take_snocI xs k (by have := HXL.out; omega), take_snocI ys k (by have := HYL.out; have := HNE.out; omega), HX.out, HY.out, HTK.out]
          case measure => simp [intOf]; omega
        · have g2 : (x != y) = true := by simp [hxy]
          have HXY := Lib.hid hxy; clear hxy
          go_wp2
          go_quiet (fail)
          go_wp2
          go_ret
          refine ⟨ret_bool ?_, by first | exact hbel | exact below_drewN hbel _ | exact hbel.drew⟩
          rw [eq_comm, decide_eq_false_iff_not]
          intro he
          exact HXY.out (by rw [← HX.out, ← HY.out, he])
      · have e : k = n := by omega
        subst e
        have htt : xs = ys := by
          have h := HTK.out
          rwa [List.take_of_length_le (by rw [HXL.out]; exact Nat.le_refl _), List.take_of_length_le (by have := HYL.out; have := HNE.out; omega)] at h
        have HTT := Lib.hid htt; clear htt
        go_wp2
        go_ret
        exact ⟨ret_bool (by rw [HTT.out]; simp), hbel⟩
  · have g1 : ((n : Int) != (m : Int)) = true := by simp; omega
    have hne2 : xs ≠ ys := fun h => hne (by rw [← hxl, ← hyl, h])
    have HXY := Lib.hid hne2; clear hne2 hxl hyl
    go_enter Try.func12, Try.ntmps12
    go_wp2
    go_ret
    exact ⟨ret_bool (by simp [HXY.out]), Below.refl _ _⟩
end Go.Proofs.Ytjiafpmcibokbaa
