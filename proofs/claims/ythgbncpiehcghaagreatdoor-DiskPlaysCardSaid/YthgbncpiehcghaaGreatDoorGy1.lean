/- WALKS OF LAYER 4, FIRST PART: the library's functions on texts, at a slash: Index, Contains, Cut, LastIndex, CutPrefix. -/
import Derived.Test.YthgbncpiehcghaaGreatDoorChecked
import Derived.Test.YthgbncpiehcghaaGreatDoorBase
import Derived.Shelf.Bytes.SlEqualAll
import Derived.Lib.Strings
import Derived.Test.YthgbncpiehcghaaGreatDoorGn4
import Derived.Lib.BytesEntry
namespace Go.Proofs.YthgbncpiehcghaaGreatDoor
set_option linter.unusedVariables false
open Go.RowKit
set_option maxHeartbeats 400000
set_option maxRecDepth 100000
theorem lite_byte_any (s : ByteArray) (c : Int) (w : World) :
    Calls Tryz.prog 137 #[.string s, .int .u8 c] w fun e w' => e = .returned (.int .i64 (Lib.indexByte s.data.toList c.toNat.toUInt8)) ∧ w = w' := by
  go_enter Tryz.func137, Tryz.ntmps137
  go_wp2
  rw [run_callFunc_extern Tryz.func149 (by kernel_rfl) (by kernel_rfl) (by kernel_rfl) (e := Extern.BytealgIndexByte.indexByte) (by kernel_rfl), Lib.run_indexByteString]
  simp only [Result.andThen]
  rw [Oper.upon_value]
  go_wp2
  go_ret
  exact ⟨rfl, rfl⟩
theorem str_byte_any (s : ByteArray) (c : Int) (w : World) :
    Calls Tryz.prog 111 #[.string s, .int .u8 c] w fun e w' => e = .returned (.int .i64 (Lib.indexByte s.data.toList c.toNat.toUInt8)) ∧ w = w' := by
  go_enter Tryz.func111, Tryz.ntmps111
  go_wp2_with (go_at_call 137; refine (lite_byte_any _ _ _).mono ?_; rintro e w' ⟨rfl, rfl⟩)
  go_ret
  exact ⟨rfl, rfl⟩
theorem lite_slash_any (s : ByteArray) (w : World) :
    Calls Tryz.prog 137 #[.string s, .int .u8 47] w fun e w' => e = .returned (.int .i64 (Pp.ix s)) ∧ w = w' := by
  have := lite_byte_any s 47 w
  rw [show ((47 : Int).toNat.toUInt8) = (47 : UInt8) from rfl, Pp.indexByte_fi] at this
  exact this
set_option maxRecDepth 100000 in
theorem lite_index_any (s : ByteArray) (w : World) :
    Calls Tryz.prog 176 #[.string s, .string ⟨#[47]⟩] w fun e w' => e = .returned (.int .i64 (Pp.ix s)) ∧ w = w' := by
  have k := lite_slash_any s w
  by_cases h : s = ⟨#[47]⟩
  · subst h
    have e : Pp.ix ⟨#[47]⟩ = 0 := by decide +kernel
    rw [e]
    go_enter Tryz.func176, Tryz.ntmps176
    go_wp2
    go_ret
    exact ⟨rfl, rfl⟩
  · have g := Pp.toList_ne (Ne.symm h)
    rw [Pp.slash_toList] at g
    generalize Pp.ix s = r at *
    have k := Lib.hid k
    go_enter Tryz.func176, Tryz.ntmps176
    go_wp2_with (go_at_call 137; refine k.out.mono ?_; rintro e w' ⟨rfl, rfl⟩)
    go_ret
    exact ⟨rfl, rfl⟩
theorem index_any (s : ByteArray) (w : World) :
    Calls Tryz.prog 161 #[.string s, .string ⟨#[47]⟩] w fun e w' => e = .returned (.int .i64 (Pp.ix s)) ∧ w = w' := by
  go_enter Tryz.func161, Tryz.ntmps161
  go_wp2_with (go_at_call 176; refine (lite_index_any _ _).mono ?_; rintro e w' ⟨rfl, rfl⟩)
  go_ret
  exact ⟨rfl, rfl⟩
theorem contains_any (s : ByteArray) (w : World) :
    Calls Tryz.prog 151 #[.string s, .string ⟨#[47]⟩] w fun e w' => e = .returned (.bool (decide (Pp.fi s < s.size))) ∧ w = w' := by
  have k := index_any s w
  unfold Pp.ix at k
  by_cases h : Pp.fi s < s.size
  · rw [if_pos h] at k
    have e : decide (Pp.fi s < s.size) = true := by simp [h]
    rw [e]
    generalize Pp.fi s = r at *
    have k := Lib.hid k
    go_enter Tryz.func151, Tryz.ntmps151
    go_wp2_with (go_at_call 161; refine k.out.mono ?_; rintro e w' ⟨rfl, rfl⟩)
    go_ret
    exact ⟨ret_bool (by simp), rfl⟩
  · rw [if_neg h] at k
    have e : decide (Pp.fi s < s.size) = false := by simp; omega
    rw [e]
    have k := Lib.hid k
    go_enter Tryz.func151, Tryz.ntmps151
    go_wp2_with (go_at_call 161; refine k.out.mono ?_; rintro e w' ⟨rfl, rfl⟩)
    go_ret
    exact ⟨rfl, rfl⟩
/-- What 'Cut' answers at a slash. -/
def cutV (s : ByteArray) : Value := if Pp.fi s < s.size then .tuple #[.string (Pp.hd s), .string (Pp.tl s), .bool true] else .tuple #[.string s, .string ⟨#[]⟩, .bool false]
/-- The place of the last slash; -1, if there is none. -/
theorem last_byte_any (s : ByteArray) (w : World) (hs : s.size ≤ 1000000) (r : Int) (hr : Pp.IsLast s s.size r) :
    Calls Tryz.prog 153 #[.string s, .int .u8 47] w fun e w' => e = .returned (.int .i64 r) ∧ w = w' := by
  have HR := Lib.hid hr; clear hr
  go_enter Tryz.func153, Tryz.ntmps153
  go_wp2
  go_loop [5] (fun i => ∃ k : Nat, k ≤ s.size ∧ i = .int .i64 ((k : Int) - 1) ∧ Hid (Pp.IsLast s k r)) (fun i => (intOf i + 1).toNat)
  case atStart => exact ⟨s.size, by omega, rfl, HR.out⟩
  case round =>
    obtain ⟨k, hk, rfl, HK⟩ := hrel
    cases k with
    | zero =>
      have e := Pp.last_zero HK.out
      subst e
      go_wp2
      go_ret
      exact ⟨rfl, rfl⟩
    | succ j =>
      have hj : j < s.size := by omega
      have e1 : ((j + 1 : Nat) : Int) - 1 = (j : Int) := by omega
      rw [e1]
      by_cases h : s[j] = 47
      · have g : ((s[j].toNat : Int) == 47) = true := by rw [h]; rfl
        have e := Pp.last_here HK.out hj h
        subst e
        clear h
        go_wp2
        go_ret
        exact ⟨rfl, rfl⟩
      · have g : ((s[j].toNat : Int) == 47) = false := Pp.ne_byte h
        have hn := Lib.hid (Pp.last_next HK.out hj h)
        clear h
        go_wp2
        go_round
        case rel => exact ⟨j, by omega, by go_num, hn.out⟩
        case measure => simp [intOf]
set_option maxRecDepth 100000 in
theorem lastindex_any (s : ByteArray) (w : World) (hs : s.size ≤ 1000000) (r : Int) (hr : Pp.IsLast s s.size r) :
    Calls Tryz.prog 143 #[.string s, .string ⟨#[47]⟩] w fun e w' => e = .returned (.int .i64 r) ∧ w = w' := by
  have k := Lib.hid (last_byte_any s w hs r hr)
  clear hr
  go_enter Tryz.func143, Tryz.ntmps143
  go_wp2_with (go_at_call 153; refine k.out.mono ?_; rintro e w' ⟨rfl, rfl⟩)
  go_ret
  exact ⟨rfl, rfl⟩
theorem lite_prefix_any (s t : ByteArray) (w : World) (hs : s.size ≤ 1000000) (ht : t.size ≤ 1000000) :
    Calls Tryz.prog 152 #[.string s, .string t] w fun e w' => e = .returned (.bool (decide (Pp.Pre t s))) ∧ w = w' := by
  by_cases h : t.size ≤ s.size
  · have h2 : (t.size : Int) ≤ s.size := by omega
    have e : decide (Pp.Pre t s) = ((s.extract 0 t.size).toList == t.toList) := by
      rw [Pp.toList_eq]; unfold Pp.Pre; simp [h]
    rw [e]
    go_enter Tryz.func152, Tryz.ntmps152
    go_wp2
    go_ret
    exact ⟨rfl, rfl⟩
  · have h2 : ¬ (t.size : Int) ≤ s.size := by omega
    have e : decide (Pp.Pre t s) = false := by unfold Pp.Pre; simp [h]
    rw [e]
    go_enter Tryz.func152, Tryz.ntmps152
    go_wp2
    go_ret
    exact ⟨rfl, rfl⟩
/-- What 'CutPrefix' answers. -/
def cutpV (s t : ByteArray) : Value := if Pp.Pre t s then .tuple #[.string (s.extract t.size s.size), .bool true] else .tuple #[.string s, .bool false]
theorem lite_cutp_any (s t : ByteArray) (w : World) (hs : s.size ≤ 1000000) (ht : t.size ≤ 1000000) :
    Calls Tryz.prog 142 #[.string s, .string t] w fun e w' => e = .returned (cutpV s t) ∧ w = w' := by
  have k := lite_prefix_any s t w hs ht
  by_cases h : Pp.Pre t s
  · have e : cutpV s t = .tuple #[.string (s.extract t.size s.size), .bool true] := by unfold cutpV; rw [if_pos h]
    rw [e]
    rw [decide_eq_true h] at k
    have h1 : t.size ≤ s.size := h.1
    have k := Lib.hid k
    clear h e
    go_enter Tryz.func142, Tryz.ntmps142
    go_wp2_with (go_at_call 152; refine k.out.mono ?_; rintro e w' ⟨rfl, rfl⟩)
    go_ret2
    exact ⟨rfl, rfl⟩
  · have e : cutpV s t = .tuple #[.string s, .bool false] := by unfold cutpV; rw [if_neg h]
    rw [e]
    rw [decide_eq_false h] at k
    have k := Lib.hid k
    clear h e
    go_enter Tryz.func142, Tryz.ntmps142
    go_wp2_with (go_at_call 152; refine k.out.mono ?_; rintro e w' ⟨rfl, rfl⟩)
    go_ret2
    exact ⟨rfl, rfl⟩
theorem cutp_any (s t : ByteArray) (w : World) (hs : s.size ≤ 1000000) (ht : t.size ≤ 1000000) :
    Calls Tryz.prog 125 #[.string s, .string t] w fun e w' => e = .returned (cutpV s t) ∧ w = w' := by
  have k := lite_cutp_any s t w hs ht
  obtain ⟨x, z, hx⟩ : ∃ x z, cutpV s t = .tuple #[.string x, .bool z] := by
    unfold cutpV
    by_cases h : Pp.Pre t s
    · rw [if_pos h]; exact ⟨_, _, rfl⟩
    · rw [if_neg h]; exact ⟨_, _, rfl⟩
  rw [hx] at k ⊢
  go_enter Tryz.func125, Tryz.ntmps125
  go_wp2_with (go_at_call 142; (with_reducible refine k.mono ?_); rintro e w' ⟨rfl, rfl⟩)
  go_ret2
  exact ⟨rfl, rfl⟩
end Go.Proofs.YthgbncpiehcghaaGreatDoor
/- WALKS OF LAYER 4, SECOND PART: names; a path's parent and base; two joined; what lies under another one. -/
namespace Go.Proofs.YthgbncpiehcghaaGreatDoor
set_option linter.unusedVariables false
open Go.RowKit
set_option maxHeartbeats 400000
set_option maxRecDepth 100000
theorem mem_byte {s : ByteArray} {c : UInt8} : c ∈ s.data.toList ↔ ∃ (i : Nat) (h : i < s.size), s[i] = c := by
  rw [List.mem_iff_getElem]
  constructor
  · rintro ⟨i, h, e⟩
    exact ⟨i, h, e⟩
  · rintro ⟨i, h, e⟩
    exact ⟨i, h, e⟩
theorem one_dot : (⟨#[46]⟩ : ByteArray).toList = [46] := by decide +kernel
theorem two_dots : (⟨#[46, 46]⟩ : ByteArray).toList = [46, 46] := by decide +kernel
theorem no_bytes : (⟨#[]⟩ : ByteArray).toList = [] := by decide +kernel
theorem size_zero {s : ByteArray} : s.size = 0 ↔ s = ⟨#[]⟩ := by
  constructor
  · intro h
    apply ByteArray.ext
    exact Array.eq_empty_of_size_eq_zero h
  · rintro rfl; rfl
theorem isEmpty_eq (s : ByteArray) : s.toList.isEmpty = decide (s.size = 0) := by
  rw [Lib.toList_data, Pp.size_eq]
  cases s.data.toList <;> simp
theorem toList_inj {s t : ByteArray} (h : s.toList = t.toList) : s = t := by
  rw [Lib.toList_data, Lib.toList_data] at h
  rw [← Lib.mk_data s, ← Lib.mk_data t, h]
theorem byte0_iff (s : ByteArray) : Lib.indexByte s.data.toList 0 < 0 ↔ (0 : UInt8) ∉ s.data.toList := by
  have i0 := Lib.indexByte_ge s.data.toList 0
  constructor
  · intro h hm
    have h1 : Lib.indexByte s.data.toList 0 = -1 := by omega
    obtain ⟨i, hi, e⟩ := List.mem_iff_getElem.1 hm
    exact Lib.indexByte_none h1 i (by rw [List.getElem?_eq_getElem hi, e])
  · intro h
    by_cases h1 : Lib.indexByte s.data.toList 0 = -1
    · omega
    · obtain ⟨o, ho⟩ : ∃ o : Nat, Lib.indexByte s.data.toList 0 = o := ⟨(Lib.indexByte s.data.toList 0).toNat, by omega⟩
      exact absurd (List.mem_of_getElem? (Lib.indexByte_some ho).1) h
theorem nm_empty : decide (Pp.Nm ⟨#[]⟩) = false := by decide +kernel
theorem nm_dot : decide (Pp.Nm ⟨#[46]⟩) = false := by decide +kernel
theorem nm_dots : decide (Pp.Nm ⟨#[46, 46]⟩) = false := by decide +kernel
theorem name_any (s : ByteArray) (w : World) (hs : s.size ≤ 1000000) :
    Calls Tryz.prog 140 #[.string s] w fun e w' => e = .returned (.bool (decide (Pp.Nm s))) ∧ w = w' := by
  by_cases c0 : s = ⟨#[]⟩
  · subst c0
    rw [nm_empty]
    go_enter Tryz.func140, Tryz.ntmps140
    go_wp2
    go_ret
    exact ⟨rfl, rfl⟩
  by_cases c1 : s = ⟨#[46]⟩
  · subst c1
    rw [nm_dot]
    go_enter Tryz.func140, Tryz.ntmps140
    go_wp2
    go_ret
    exact ⟨rfl, rfl⟩
  by_cases c2 : s = ⟨#[46, 46]⟩
  · subst c2
    rw [nm_dots]
    go_enter Tryz.func140, Tryz.ntmps140
    go_wp2
    go_ret
    exact ⟨rfl, rfl⟩
  have c0' : ¬ s.size = 0 := fun h => c0 (size_zero.1 h)
  have c3 : ¬ s = ByteArray.empty := c0
  have d0 : s.toList.isEmpty = false := by rw [isEmpty_eq]; simp [c0']
  have d1 : (s.toList == [46]) = false := by rw [← one_dot]; exact Pp.toList_ne c1
  have d2 : (s.toList == [46, 46]) = false := by rw [← two_dots]; exact Pp.toList_ne c2
  by_cases h60 : s.size ≤ 60
  · have k1 := str_byte_any s 0 w
    have k2 := contains_any s w
    rw [show ((0 : Int).toNat.toUInt8) = (0 : UInt8) from rfl] at k1
    have hres : decide (Pp.Nm s) = (decide (Lib.indexByte s.data.toList 0 < 0) && ! decide (Pp.fi s < s.size)) := by
      rw [Bool.eq_iff_iff]
      simp only [decide_eq_true_eq, Bool.and_eq_true, Bool.not_eq_true', decide_eq_false_iff_not]
      rw [byte0_iff, Pp.fi_mem]
      unfold Pp.Nm
      constructor
      · exact fun h => h.2
      · exact fun h => ⟨⟨by omega, h60, c1, c2⟩, h⟩
    rw [hres]
    generalize Lib.indexByte s.data.toList 0 = r at *
    have h60' : ¬ (60 : Int) < s.size := by omega
    by_cases hr : r < 0
    · generalize decide (Pp.fi s < s.size) = b at *
      rw [decide_eq_true hr]
      have K1 := Lib.hid k1; have K2 := Lib.hid k2; clear k1 k2 hres c0 c1 c2 c3
      go_enter Tryz.func140, Tryz.ntmps140
      go_wp2_with (first | (go_at_call 111; refine K1.out.mono ?_; rintro e w' ⟨rfl, rfl⟩) | (go_at_call 151; refine K2.out.mono ?_; rintro e w' ⟨rfl, rfl⟩))
      go_ret
      exact ⟨ret_bool (by simp), rfl⟩
    · rw [decide_eq_false hr]
      have K1 := Lib.hid k1; clear k1 k2 hres c0 c1 c2 c3
      go_enter Tryz.func140, Tryz.ntmps140
      go_wp2_with (first | (go_at_call 111; refine K1.out.mono ?_; rintro e w' ⟨rfl, rfl⟩))
      go_ret
      exact ⟨ret_bool (by simp), rfl⟩
  · have hres : decide (Pp.Nm s) = false := by
      rw [decide_eq_false_iff_not]
      exact fun h => h60 h.1.2.1
    rw [hres]
    have h60' : (60 : Int) < s.size := by omega
    clear c0 c1 c2 c3 hres
    go_enter Tryz.func140, Tryz.ntmps140
    go_wp2
    go_ret
    exact ⟨rfl, rfl⟩
theorem refname_any (s : ByteArray) (w : World) (hs : s.size ≤ 1000000) :
    Calls Tryz.prog 115 #[.string s] w fun e w' => e = .returned (.bool (decide (Pp.Nm s))) ∧ w = w' := by
  go_enter Tryz.func115, Tryz.ntmps115
  go_wp2
  go_loop [3] (fun i => ∃ k : Nat, k ≤ s.size ∧ i = .int .i64 k ∧ Hid (∀ j (h : j < s.size), j < k → s[j] ≠ 0 ∧ s[j] ≠ 47)) (fun i => s.size - (intOf i).toNat)
  case atStart => exact ⟨0, by omega, rfl, fun j _ h => absurd h (by omega)⟩
  case round =>
    obtain ⟨k, hk, rfl, HK⟩ := hrel
    by_cases h1 : k < s.size
    · have h1' : (k : Int) < s.size := by omega
      by_cases h2 : s[k] = 0
      · have g : ((s[k].toNat : Int) == 0) = true := by rw [h2]; rfl
        have hres : decide (Pp.Nm s) = false := by
          rw [decide_eq_false_iff_not]
          exact fun h => h.2.1 (mem_byte.2 ⟨k, h1, h2⟩)
        have HR := Lib.hid hres; clear hres h2
        go_wp2
        go_ret
        exact ⟨ret_bool HR.out.symm, rfl⟩
      · have g : ((s[k].toNat : Int) == 0) = false := Pp.ne_byte h2
        by_cases h3 : s[k] = 47
        · have g2 : ((s[k].toNat : Int) == 47) = true := by rw [h3]; rfl
          have hres : decide (Pp.Nm s) = false := by
            rw [decide_eq_false_iff_not]
            exact fun h => h.2.2 (mem_byte.2 ⟨k, h1, h3⟩)
          have HR := Lib.hid hres; clear hres h2 h3
          go_wp2
          go_ret
          exact ⟨ret_bool HR.out.symm, rfl⟩
        · have g2 : ((s[k].toNat : Int) == 47) = false := Pp.ne_byte h3
          have hn : Hid (∀ j (h : j < s.size), j < k + 1 → s[j] ≠ 0 ∧ s[j] ≠ 47) := fun j h hj => by
            by_cases e : j = k
            · subst e; exact ⟨h2, h3⟩
            · exact HK.out j h (by omega)
          clear h2 h3
          go_wp2
          go_round
          case rel => exact ⟨k + 1, by omega, by go_num, hn⟩
          case measure => simp [intOf]; omega
    · have e : k = s.size := by omega
      subst e
      have hn : (0 : UInt8) ∉ s.data.toList ∧ (47 : UInt8) ∉ s.data.toList := by
        constructor
        · intro h
          obtain ⟨i, hi, e⟩ := mem_byte.1 h
          exact (HK.out i hi hi).1 e
        · intro h
          obtain ⟨i, hi, e⟩ := mem_byte.1 h
          exact (HK.out i hi hi).2 e
      have hres : decide (Pp.Nm s) = (decide (1 ≤ s.size) && decide (s.size ≤ 60) && !(s.toList == [46]) && !(s.toList == [46, 46])) := by
        have e1 := Pp.toList_eq s ⟨#[46]⟩
        have e2 := Pp.toList_eq s ⟨#[46, 46]⟩
        rw [one_dot] at e1
        rw [two_dots] at e2
        rw [e1, e2, Bool.eq_iff_iff]
        simp only [decide_eq_true_eq, Bool.and_eq_true, Bool.not_eq_true', decide_eq_false_iff_not]
        unfold Pp.Nm
        constructor
        · rintro ⟨⟨a, b, c, d⟩, _⟩
          exact ⟨⟨⟨a, b⟩, c⟩, d⟩
        · rintro ⟨⟨⟨a, b⟩, c⟩, d⟩
          exact ⟨⟨a, b, c, d⟩, hn⟩
      have HR := Lib.hid hres; clear hres hn h1
      by_cases h4 : 1 ≤ s.size
      · have h4' : (1 : Int) ≤ s.size := by omega
        by_cases h5 : s.size ≤ 60
        · have h5' : (s.size : Int) ≤ 60 := by omega
          go_wp2
          all_goals
            go_ret
            refine ⟨ret_bool ?_, rfl⟩
            rw [HR.out]
            simp_all
        · have h5' : ¬ (s.size : Int) ≤ 60 := by omega
          go_wp2
          go_ret
          refine ⟨ret_bool ?_, rfl⟩
          rw [HR.out]
          simp [h5]
      · have h4' : ¬ (1 : Int) ≤ s.size := by omega
        go_wp2
        go_ret
        refine ⟨ret_bool ?_, rfl⟩
        rw [HR.out]
        simp [h4]
/-- What stands ahead of the last slash; behind it. -/
def parentS (s : ByteArray) (r : Int) : ByteArray := s.extract 0 (max r 0).toNat
def baseS (s : ByteArray) (r : Int) : ByteArray := s.extract (r + 1).toNat s.size
theorem last_bd {s : ByteArray} {k : Nat} {r : Int} (h : Pp.IsLast s k r) : -1 ≤ r ∧ r < s.size := by
  rcases h with ⟨h, _⟩ | ⟨i, hi, _, h, _⟩
  · omega
  · omega
theorem parent_any (s : ByteArray) (w : World) (hs : s.size ≤ 1000000) (r : Int) (hr : Pp.IsLast s s.size r) :
    Calls Tryz.prog 129 #[.string s] w fun e w' => e = .returned (.string (parentS s r)) ∧ w = w' := by
  have k := Lib.hid (lastindex_any s w hs r hr)
  obtain ⟨h1, h2⟩ := last_bd hr
  clear hr
  unfold parentS
  by_cases h0 : r < 0
  · obtain rfl : r = -1 := by omega
    go_enter Tryz.func129, Tryz.ntmps129
    go_wp2_with (go_at_call 143; refine k.out.mono ?_; rintro e w' ⟨rfl, rfl⟩)
    go_ret
    exact ⟨rfl, rfl⟩
  · obtain ⟨i, rfl⟩ : ∃ i : Nat, r = i := ⟨r.toNat, by omega⟩
    rw [show max (i : Int) 0 = i from by omega, Int.toNat_natCast]
    have h3 : i ≤ s.size := by omega
    go_enter Tryz.func129, Tryz.ntmps129
    go_wp2_with (go_at_call 143; refine k.out.mono ?_; rintro e w' ⟨rfl, rfl⟩)
    go_ret
    exact ⟨rfl, rfl⟩
theorem base_any (s : ByteArray) (w : World) (hs : s.size ≤ 1000000) (r : Int) (hr : Pp.IsLast s s.size r) :
    Calls Tryz.prog 130 #[.string s] w fun e w' => e = .returned (.string (baseS s r)) ∧ w = w' := by
  have k := Lib.hid (lastindex_any s w hs r hr)
  obtain ⟨h1, h2⟩ := last_bd hr
  clear hr
  unfold baseS
  obtain ⟨i, hi⟩ : ∃ i : Nat, r = (i : Int) - 1 := ⟨(r + 1).toNat, by omega⟩
  subst hi
  have h3 : i ≤ s.size := by omega
  rw [show ((i : Int) - 1 + 1) = i from by omega, Int.toNat_natCast]
  have s1 : IntKind.i64.wrap ((i : Int) - 1 + 1) = (i : Int) := by rw [show ((i : Int) - 1 + 1) = i from by omega]; exact IntWalk.i64_in _ (by omega)
  go_enter Tryz.func130, Tryz.ntmps130
  go_wp2_with (go_at_call 143; refine k.out.mono ?_; rintro e w' ⟨rfl, rfl⟩)
  go_ret
  exact ⟨rfl, rfl⟩
theorem reflast_any (s : ByteArray) (w : World) (hs : s.size ≤ 1000000) (r : Int) (hr : Pp.IsLast s s.size r) :
    Calls Tryz.prog 148 #[.string s] w fun e w' => e = .returned (.int .i64 r) ∧ w = w' := by
  have HR := Lib.hid hr; clear hr
  go_enter Tryz.func148, Tryz.ntmps148
  go_wp2
  go_loop [3, 4] (fun m i => ∃ (k : Nat) (x : Int), k ≤ s.size ∧ i = .int .i64 k ∧ m = .int .i64 x ∧ Hid (Pp.IsLast s k x)) (fun m i => s.size - (intOf i).toNat)
  case atStart => exact ⟨0, -1, by omega, rfl, rfl, .inl ⟨rfl, fun j _ h => absurd h (by omega)⟩⟩
  case round =>
    obtain ⟨k, x, hk, rfl, rfl, HX⟩ := hrel
    by_cases h1 : k < s.size
    · have h1' : (k : Int) < s.size := by omega
      by_cases h : s[k] = 47
      · have g : ((s[k].toNat : Int) == 47) = true := by rw [h]; rfl
        have hn : Hid (Pp.IsLast s (k + 1) (k : Int)) := .inr ⟨k, h1, by omega, rfl, h, fun j _ a b => by omega⟩
        clear h
        go_wp2
        go_round
        case rel => exact ⟨k + 1, k, by omega, by go_num, rfl, hn⟩
        case measure => simp [intOf]; omega
      · have g : ((s[k].toNat : Int) == 47) = false := Pp.ne_byte h
        have hn : Hid (Pp.IsLast s (k + 1) x) := Pp.last_step HX.out h1 h
        clear h
        go_wp2
        go_round
        case rel => exact ⟨k + 1, x, by omega, by go_num, rfl, hn⟩
        case measure => simp [intOf]; omega
    · have e : k = s.size := by omega
      subst e
      have e := Pp.last_one HX.out HR.out
      subst e
      go_wp2
      go_ret
      exact ⟨rfl, rfl⟩
theorem refparent_any (s : ByteArray) (w : World) (hs : s.size ≤ 1000000) (r : Int) (hr : Pp.IsLast s s.size r) :
    Calls Tryz.prog 136 #[.string s] w fun e w' => e = .returned (.string (parentS s r)) ∧ w = w' := by
  have k := Lib.hid (reflast_any s w hs r hr)
  obtain ⟨h1, h2⟩ := last_bd hr
  clear hr
  unfold parentS
  by_cases h0 : r < 0
  · obtain rfl : r = -1 := by omega
    go_enter Tryz.func136, Tryz.ntmps136
    go_wp2_with (go_at_call 148; refine k.out.mono ?_; rintro e w' ⟨rfl, rfl⟩)
    go_ret
    exact ⟨rfl, rfl⟩
  · obtain ⟨i, rfl⟩ : ∃ i : Nat, r = i := ⟨r.toNat, by omega⟩
    rw [show max (i : Int) 0 = i from by omega, Int.toNat_natCast]
    have h3 : i ≤ s.size := by omega
    go_enter Tryz.func136, Tryz.ntmps136
    go_wp2_with (go_at_call 148; refine k.out.mono ?_; rintro e w' ⟨rfl, rfl⟩)
    go_ret
    exact ⟨rfl, rfl⟩
theorem ret_str {s t : ByteArray} (h : s = t) : Ending.returned (.string s) = .returned (.string t) := by rw [h]
theorem empty_app (s : ByteArray) : (⟨#[]⟩ : ByteArray) ++ s = s := by
  apply ByteArray.ext
  simp [ByteArray.data_append]
theorem app_empty (s : ByteArray) : s ++ (⟨#[]⟩ : ByteArray) = s := by
  apply ByteArray.ext
  simp [ByteArray.data_append]
/-- Two joined. -/
def joinS (t s : ByteArray) : ByteArray := if t.size = 0 then s else if s.size = 0 then t else t ++ ⟨#[47]⟩ ++ s
theorem join_any4 (t s : ByteArray) (w : World) (hs : s.size ≤ 1000000) (ht : t.size ≤ 1000000) :
    Calls Tryz.prog 141 #[.string t, .string s] w fun e w' => e = .returned (.string (joinS t s)) ∧ w = w' := by
  unfold joinS
  by_cases h : t.size = 0
  · rw [if_pos h]
    obtain rfl := size_zero.1 h
    go_enter Tryz.func141, Tryz.ntmps141
    go_wp2
    go_ret
    exact ⟨rfl, rfl⟩
  · rw [if_neg h]
    have g : t.toList.isEmpty = false := by rw [isEmpty_eq]; simp [h]
    by_cases h2 : s.size = 0
    · rw [if_pos h2]
      obtain rfl := size_zero.1 h2
      clear h
      go_enter Tryz.func141, Tryz.ntmps141
      go_wp2
      go_ret
      exact ⟨rfl, rfl⟩
    · rw [if_neg h2]
      have g2 : s.toList.isEmpty = false := by rw [isEmpty_eq]; simp [h2]
      clear h h2
      go_enter Tryz.func141, Tryz.ntmps141
      go_wp2
      go_ret
      exact ⟨rfl, rfl⟩
theorem refjoin_any4 (t s : ByteArray) (w : World) (hs : s.size ≤ 1000000) (ht : t.size ≤ 1000000) :
    Calls Tryz.prog 45 #[.string t, .string s] w fun e w' => e = .returned (.string (joinS t s)) ∧ w = w' := by
  unfold joinS
  by_cases h : t.size = 0
  · rw [if_pos h]
    obtain rfl := size_zero.1 h
    have E := Lib.hid (empty_app s)
    go_enter Tryz.func45, Tryz.ntmps45
    go_wp2
    go_ret
    exact ⟨ret_str E.out, rfl⟩
  · rw [if_neg h]
    have g : t.toList.isEmpty = false := by rw [isEmpty_eq]; simp [h]
    by_cases h2 : s.size = 0
    · rw [if_pos h2]
      obtain rfl := size_zero.1 h2
      have E := Lib.hid (app_empty t)
      clear h
      go_enter Tryz.func45, Tryz.ntmps45
      go_wp2
      go_ret
      exact ⟨ret_str E.out, rfl⟩
    · rw [if_neg h2]
      have g2 : s.toList.isEmpty = false := by rw [isEmpty_eq]; simp [h2]
      clear h h2
      go_enter Tryz.func45, Tryz.ntmps45
      go_wp2
      go_ret
      exact ⟨rfl, rfl⟩
/-- What lies under. -/
def restV (s t : ByteArray) : ByteArray × Bool := if t.size = 0 then (s, decide (s.size ≠ 0)) else if Pp.Pre (t ++ ⟨#[47]⟩) s then (s.extract (t.size + 1) s.size, true) else (⟨#[]⟩, false)
theorem rest_any (s t : ByteArray) (w : World) (hs : s.size ≤ 1000000) (ht : t.size ≤ 100000) :
    Calls Tryz.prog 85 #[.string s, .string t] w fun e w' => e = .returned (.tuple #[.string (restV s t).1, .bool (restV s t).2]) ∧ w = w' := by
  have hv : restV s t = if t.size = 0 then (s, decide (s.size ≠ 0)) else if Pp.Pre (t ++ ⟨#[47]⟩) s then (s.extract (t.size + 1) s.size, true) else (⟨#[]⟩, false) := rfl
  generalize restV s t = v at *
  by_cases h : t.size = 0
  · rw [if_pos h] at hv
    subst hv
    obtain rfl := size_zero.1 h
    by_cases h2 : s.size = 0
    · obtain rfl := size_zero.1 h2
      clear h h2
      go_enter Tryz.func85, Tryz.ntmps85
      go_wp2
      go_ret2
      exact ⟨rfl, rfl⟩
    · have g2 : s.toList.isEmpty = false := by rw [isEmpty_eq]; simp [h2]
      have e : decide (s.size ≠ 0) = true := by simp [h2]
      rw [e]
      clear h h2 e
      go_enter Tryz.func85, Tryz.ntmps85
      go_wp2
      go_ret2
      exact ⟨rfl, rfl⟩
  · rw [if_neg h] at hv
    have g : t.toList.isEmpty = false := by rw [isEmpty_eq]; simp [h]
    have hsz : (t ++ (⟨#[47]⟩ : ByteArray)).size = t.size + 1 := Pp.app_size t ⟨#[47]⟩
    have k := cutp_any s (t ++ ⟨#[47]⟩) w hs (by omega)
    unfold cutpV at k
    clear h
    by_cases h2 : Pp.Pre (t ++ ⟨#[47]⟩) s
    · rw [if_pos h2, hsz] at k
      rw [if_pos h2] at hv
      subst hv
      have k := Lib.hid k
      clear h2 hsz
      go_enter Tryz.func85, Tryz.ntmps85
      go_wp2_with (go_at_call 125; refine k.out.mono ?_; rintro e w' ⟨rfl, rfl⟩)
      go_ret2
      exact ⟨rfl, rfl⟩
    · rw [if_neg h2] at k hv
      subst hv
      have k := Lib.hid k
      clear h2 hsz
      go_enter Tryz.func85, Tryz.ntmps85
      go_wp2_with (go_at_call 125; refine k.out.mono ?_; rintro e w' ⟨rfl, rfl⟩)
      go_ret2
      exact ⟨rfl, rfl⟩
theorem under_any (s t : ByteArray) (w : World) (hs : s.size ≤ 1000000) (ht : t.size ≤ 100000) :
    Calls Tryz.prog 91 #[.string s, .string t] w fun e w' => e = .returned (.bool (restV s t).2) ∧ w = w' := by
  have k := rest_any s t w hs ht
  generalize restV s t = v at *
  have k := Lib.hid k
  go_enter Tryz.func91, Tryz.ntmps91
  go_wp2_with (go_at_call 85; refine k.out.mono ?_; rintro e w' ⟨rfl, rfl⟩)
  go_ret
  exact ⟨rfl, rfl⟩
theorem refrest_any (s t : ByteArray) (w : World) (hs : s.size ≤ 1000000) (ht : t.size ≤ 100000) :
    Calls Tryz.prog 109 #[.string s, .string t] w fun e w' => e = .returned (.tuple #[.string (restV s t).1, .bool (restV s t).2]) ∧ w = w' := by
  have hv : restV s t = if t.size = 0 then (s, decide (s.size ≠ 0)) else if Pp.Pre (t ++ ⟨#[47]⟩) s then (s.extract (t.size + 1) s.size, true) else (⟨#[]⟩, false) := rfl
  generalize restV s t = v at *
  by_cases h : t.size = 0
  · rw [if_pos h] at hv
    subst hv
    obtain rfl := size_zero.1 h
    by_cases h2 : s.size = 0
    · obtain rfl := size_zero.1 h2
      clear h h2
      go_enter Tryz.func109, Tryz.ntmps109
      go_wp2
      go_ret2
      exact ⟨rfl, rfl⟩
    · have g2 : s.toList.isEmpty = false := by rw [isEmpty_eq]; simp [h2]
      have e : decide (s.size ≠ 0) = true := by simp [h2]
      rw [e]
      clear h h2 e
      go_enter Tryz.func109, Tryz.ntmps109
      go_wp2
      go_ret2
      exact ⟨rfl, rfl⟩
  · rw [if_neg h] at hv
    have g : t.toList.isEmpty = false := by rw [isEmpty_eq]; simp [h]
    have hp := Pp.pre_slash t s
    by_cases h1 : t.size < s.size
    · have h1' : (t.size : Int) < s.size := by omega
      by_cases h2 : s.extract 0 t.size = t
      · have g2 : ((s.extract 0 t.size).toList == t.toList) = true := by rw [Pp.toList_eq]; simp [h2]
        by_cases h3 : s[t.size] = 47
        · have g3 : ((s[t.size].toNat : Int) == 47) = true := by rw [h3]; rfl
          have hq := hp.2 ⟨h1, h2, h3⟩
          rw [if_pos hq] at hv
          subst hv
          have s1 : IntKind.i64.wrap ((t.size : Int) + 1) = (t.size : Int) + 1 := IntWalk.i64_in _ (by omega)
          have s2 : ((t.size : Int) + 1).toNat = t.size + 1 := by omega
          have s3 : (0 : Int) ≤ (t.size : Int) + 1 := by omega
          have s4 : t.size + 1 ≤ s.size := by omega
          clear hp hq h2 h3 h
          go_enter Tryz.func109, Tryz.ntmps109
          go_wp2
          go_ret2
          exact ⟨rfl, rfl⟩
        · have g3 : ((s[t.size].toNat : Int) == 47) = false := Pp.ne_byte h3
          rw [if_neg (fun hq => by obtain ⟨_, _, c⟩ := hp.1 hq; exact h3 c)] at hv
          subst hv
          clear hp h2 h3 h
          go_enter Tryz.func109, Tryz.ntmps109
          go_wp2
          go_ret2
          exact ⟨rfl, rfl⟩
      · have g2 : ((s.extract 0 t.size).toList == t.toList) = false := Pp.toList_ne h2
        rw [if_neg (fun hq => by obtain ⟨_, c, _⟩ := hp.1 hq; exact h2 c)] at hv
        subst hv
        clear hp h2 h
        go_enter Tryz.func109, Tryz.ntmps109
        go_wp2
        go_ret2
        exact ⟨rfl, rfl⟩
    · have h1' : ¬ (t.size : Int) < s.size := by omega
      rw [if_neg (fun hq => by obtain ⟨c, _⟩ := hp.1 hq; exact h1 c)] at hv
      subst hv
      clear hp h
      go_enter Tryz.func109, Tryz.ntmps109
      go_wp2
      go_ret2
      exact ⟨rfl, rfl⟩
end Go.Proofs.YthgbncpiehcghaaGreatDoor
