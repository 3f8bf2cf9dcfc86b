/- WALKS OF LAYER 4, FIRST PART: the library's functions on texts, at a slash: Index, Contains, Cut, LastIndex, CutPrefix. -/
import Derived.Test.YtbianfjennnofaaDoorChecked
import Derived.Test.YtbianfjennnofaaDoorBase
import Derived.Shelf.Bytes.SlEqualAll
import Derived.Lib.Strings
import Derived.Test.YtbianfjennnofaaDoorGn4
import Derived.Lib.BytesEntry
namespace Go.Proofs.YtbianfjennnofaaDoor
set_option linter.unusedVariables false
open Go.RowKit
set_option maxHeartbeats 400000
set_option maxRecDepth 100000
theorem lite_byte_any (s : ByteArray) (c : Int) (w : World) :
    Calls Tryd.prog 52 #[.string s, .int .u8 c] w fun e w' => e = .returned (.int .i64 (Lib.indexByte s.data.toList c.toNat.toUInt8)) ∧ w = w' := by
  go_enter Tryd.func52, Tryd.ntmps52
  go_wp2
  rw [run_callFunc_extern Tryd.func61 (by kernel_rfl) (by kernel_rfl) (by kernel_rfl) (e := Extern.BytealgIndexByte.indexByte) (by kernel_rfl), Lib.run_indexByteString]
  simp only [Result.andThen]
  rw [Oper.upon_value]
  go_wp2
  go_ret
  exact ⟨rfl, rfl⟩
theorem str_byte_any (s : ByteArray) (c : Int) (w : World) :
    Calls Tryd.prog 41 #[.string s, .int .u8 c] w fun e w' => e = .returned (.int .i64 (Lib.indexByte s.data.toList c.toNat.toUInt8)) ∧ w = w' := by
  go_enter Tryd.func41, Tryd.ntmps41
  go_wp2_with (go_at_call 52; refine (lite_byte_any _ _ _).mono ?_; rintro e w' ⟨rfl, rfl⟩)
  go_ret
  exact ⟨rfl, rfl⟩
theorem lite_slash_any (s : ByteArray) (w : World) :
    Calls Tryd.prog 52 #[.string s, .int .u8 47] w fun e w' => e = .returned (.int .i64 (Pp.ix s)) ∧ w = w' := by
  have := lite_byte_any s 47 w
  rw [show ((47 : Int).toNat.toUInt8) = (47 : UInt8) from rfl, Pp.indexByte_fi] at this
  exact this
set_option maxRecDepth 100000 in
theorem lite_index_any (s : ByteArray) (w : World) :
    Calls Tryd.prog 87 #[.string s, .string ⟨#[47]⟩] w fun e w' => e = .returned (.int .i64 (Pp.ix s)) ∧ w = w' := by
  have k := lite_slash_any s w
  by_cases h : s = ⟨#[47]⟩
  · subst h
    have e : Pp.ix ⟨#[47]⟩ = 0 := by decide +kernel
    rw [e]
    go_enter Tryd.func87, Tryd.ntmps87
    go_wp2
    go_ret
    exact ⟨rfl, rfl⟩
  · have g := Pp.toList_ne (Ne.symm h)
    rw [Pp.slash_toList] at g
    generalize Pp.ix s = r at *
    have k := Lib.hid k
    go_enter Tryd.func87, Tryd.ntmps87
    go_wp2_with (go_at_call 52; refine k.out.mono ?_; rintro e w' ⟨rfl, rfl⟩)
    go_ret
    exact ⟨rfl, rfl⟩
theorem index_any (s : ByteArray) (w : World) :
    Calls Tryd.prog 72 #[.string s, .string ⟨#[47]⟩] w fun e w' => e = .returned (.int .i64 (Pp.ix s)) ∧ w = w' := by
  go_enter Tryd.func72, Tryd.ntmps72
  go_wp2_with (go_at_call 87; refine (lite_index_any _ _).mono ?_; rintro e w' ⟨rfl, rfl⟩)
  go_ret
  exact ⟨rfl, rfl⟩
theorem contains_any (s : ByteArray) (w : World) :
    Calls Tryd.prog 63 #[.string s, .string ⟨#[47]⟩] w fun e w' => e = .returned (.bool (decide (Pp.fi s < s.size))) ∧ w = w' := by
  have k := index_any s w
  unfold Pp.ix at k
  by_cases h : Pp.fi s < s.size
  · rw [if_pos h] at k
    have e : decide (Pp.fi s < s.size) = true := by simp [h]
    rw [e]
    generalize Pp.fi s = r at *
    have k := Lib.hid k
    go_enter Tryd.func63, Tryd.ntmps63
    go_wp2_with (go_at_call 72; refine k.out.mono ?_; rintro e w' ⟨rfl, rfl⟩)
    go_ret
    exact ⟨ret_bool (by simp), rfl⟩
  · rw [if_neg h] at k
    have e : decide (Pp.fi s < s.size) = false := by simp; omega
    rw [e]
    have k := Lib.hid k
    go_enter Tryd.func63, Tryd.ntmps63
    go_wp2_with (go_at_call 72; refine k.out.mono ?_; rintro e w' ⟨rfl, rfl⟩)
    go_ret
    exact ⟨rfl, rfl⟩
/-- What 'Cut' answers at a slash. -/
def cutV (s : ByteArray) : Value := if Pp.fi s < s.size then .tuple #[.string (Pp.hd s), .string (Pp.tl s), .bool true] else .tuple #[.string s, .string ⟨#[]⟩, .bool false]
/-- The place of the last slash; -1, if there is none. -/
theorem last_byte_any (s : ByteArray) (w : World) (hs : s.size ≤ 1000000) (r : Int) (hr : Pp.IsLast s s.size r) :
    Calls Tryd.prog 64 #[.string s, .int .u8 47] w fun e w' => e = .returned (.int .i64 r) ∧ w = w' := by
  have HR := Lib.hid hr; clear hr
  go_enter Tryd.func64, Tryd.ntmps64
  go_wp2
  go_loop [5] (fun i => ∃ k : Nat, k ≤ s.size ∧ i = .int .i64 ((k : Int) - 1) ∧ Hid (Pp.IsLast s k r)) (fun i => (intOf i + 1).toNat)
  case atStart => exact ⟨s.size, by omega, rfl, HR.out⟩
  case round =>
    obtain ⟨k, hk, rfl, HK⟩ := hrel
    cases k with
    | zero =>
      have e := Pp.last_zero HK.out
      subst e
      go_wp2
      go_ret
      exact ⟨rfl, rfl⟩
    | succ j =>
      have hj : j < s.size := by omega
      have e1 : ((j + 1 : Nat) : Int) - 1 = (j : Int) := by omega
      rw [e1]
      by_cases h : s[j] = 47
      · have g : ((s[j].toNat : Int) == 47) = true := by rw [h]; rfl
        have e := Pp.last_here HK.out hj h
        subst e
        clear h
        go_wp2
        go_ret
        exact ⟨rfl, rfl⟩
      · have g : ((s[j].toNat : Int) == 47) = false := Pp.ne_byte h
        have hn := Lib.hid (Pp.last_next HK.out hj h)
        clear h
        go_wp2
        go_round
        case rel => exact ⟨j, by omega, by go_num, hn.out⟩
        case measure => simp [intOf]
set_option maxRecDepth 100000 in
theorem lastindex_any (s : ByteArray) (w : World) (hs : s.size ≤ 1000000) (r : Int) (hr : Pp.IsLast s s.size r) :
    Calls Tryd.prog 56 #[.string s, .string ⟨#[47]⟩] w fun e w' => e = .returned (.int .i64 r) ∧ w = w' := by
  have k := Lib.hid (last_byte_any s w hs r hr)
  clear hr
  go_enter Tryd.func56, Tryd.ntmps56
  go_wp2_with (go_at_call 64; refine k.out.mono ?_; rintro e w' ⟨rfl, rfl⟩)
  go_ret
  exact ⟨rfl, rfl⟩
theorem lite_prefix_any (s t : ByteArray) (w : World) (hs : s.size ≤ 1000000) (ht : t.size ≤ 1000000) :
    Calls Tryd.prog 85 #[.string s, .string t] w fun e w' => e = .returned (.bool (decide (Pp.Pre t s))) ∧ w = w' := by
  by_cases h : t.size ≤ s.size
  · have h2 : (t.size : Int) ≤ s.size := by omega
    have e : decide (Pp.Pre t s) = ((s.extract 0 t.size).toList == t.toList) := by
      rw [Pp.toList_eq]; unfold Pp.Pre; simp [h]
    rw [e]
    go_enter Tryd.func85, Tryd.ntmps85
    go_wp2
    go_ret
    exact ⟨rfl, rfl⟩
  · have h2 : ¬ (t.size : Int) ≤ s.size := by omega
    have e : decide (Pp.Pre t s) = false := by unfold Pp.Pre; simp [h]
    rw [e]
    go_enter Tryd.func85, Tryd.ntmps85
    go_wp2
    go_ret
    exact ⟨rfl, rfl⟩
/-- What 'CutPrefix' answers. -/
def cutpV (s t : ByteArray) : Value := if Pp.Pre t s then .tuple #[.string (s.extract t.size s.size), .bool true] else .tuple #[.string s, .bool false]
theorem lite_cutp_any (s t : ByteArray) (w : World) (hs : s.size ≤ 1000000) (ht : t.size ≤ 1000000) :
    Calls Tryd.prog 69 #[.string s, .string t] w fun e w' => e = .returned (cutpV s t) ∧ w = w' := by
  have k := lite_prefix_any s t w hs ht
  by_cases h : Pp.Pre t s
  · have e : cutpV s t = .tuple #[.string (s.extract t.size s.size), .bool true] := by unfold cutpV; rw [if_pos h]
    rw [e]
    rw [decide_eq_true h] at k
    have h1 : t.size ≤ s.size := h.1
    have k := Lib.hid k
    clear h e
    go_enter Tryd.func69, Tryd.ntmps69
    go_wp2_with (go_at_call 85; refine k.out.mono ?_; rintro e w' ⟨rfl, rfl⟩)
    go_ret2
    exact ⟨rfl, rfl⟩
  · have e : cutpV s t = .tuple #[.string s, .bool false] := by unfold cutpV; rw [if_neg h]
    rw [e]
    rw [decide_eq_false h] at k
    have k := Lib.hid k
    clear h e
    go_enter Tryd.func69, Tryd.ntmps69
    go_wp2_with (go_at_call 85; refine k.out.mono ?_; rintro e w' ⟨rfl, rfl⟩)
    go_ret2
    exact ⟨rfl, rfl⟩
theorem cutp_any (s t : ByteArray) (w : World) (hs : s.size ≤ 1000000) (ht : t.size ≤ 1000000) :
    Calls Tryd.prog 60 #[.string s, .string t] w fun e w' => e = .returned (cutpV s t) ∧ w = w' := by
  have k := lite_cutp_any s t w hs ht
  obtain ⟨x, z, hx⟩ : ∃ x z, cutpV s t = .tuple #[.string x, .bool z] := by
    unfold cutpV
    by_cases h : Pp.Pre t s
    · rw [if_pos h]; exact ⟨_, _, rfl⟩
    · rw [if_neg h]; exact ⟨_, _, rfl⟩
  rw [hx] at k ⊢
  go_enter Tryd.func60, Tryd.ntmps60
  go_wp2_with (go_at_call 69; (with_reducible refine k.mono ?_); rintro e w' ⟨rfl, rfl⟩)
  go_ret2
  exact ⟨rfl, rfl⟩
end Go.Proofs.YtbianfjennnofaaDoor
