/- WALKS OF LAYER 4, FIRST PART: the library's functions on texts, at a slash: Index, Contains, Cut, LastIndex, CutPrefix. -/
import Derived.Test.YtjofdgjcbjdhbaaGreatDoorChecked
import Derived.Test.YtjofdgjcbjdhbaaGreatDoorBase
import Derived.Shelf.Bytes.SlEqualAll
import Derived.Lib.Strings
import Derived.Test.YtjofdgjcbjdhbaaGreatDoorGn4
import Derived.Lib.BytesEntry
namespace Go.Proofs.YtjofdgjcbjdhbaaGreatDoor
set_option linter.unusedVariables false
open Go.RowKit
set_option maxHeartbeats 400000
set_option maxRecDepth 100000
theorem lite_byte_any (s : ByteArray) (c : Int) (w : World) :
    Calls Tryz.prog 139 #[.string s, .int .u8 c] w fun e w' => e = .returned (.int .i64 (Lib.indexByte s.data.toList c.toNat.toUInt8)) ∧ w = w' := by
  go_enter Tryz.func139, Tryz.ntmps139
  go_wp2
  rw [run_callFunc_extern Tryz.func159 (by kernel_rfl) (by kernel_rfl) (by kernel_rfl) (e := Extern.BytealgIndexByte.indexByte) (by kernel_rfl), Lib.run_indexByteString]
  simp only [Result.andThen]
  rw [Oper.upon_value]
  go_wp2
  go_ret
  exact ⟨rfl, rfl⟩
theorem str_byte_any (s : ByteArray) (c : Int) (w : World) :
    Calls Tryz.prog 117 #[.string s, .int .u8 c] w fun e w' => e = .returned (.int .i64 (Lib.indexByte s.data.toList c.toNat.toUInt8)) ∧ w = w' := by
  go_enter Tryz.func117, Tryz.ntmps117
  go_wp2_with (go_at_call 139; refine (lite_byte_any _ _ _).mono ?_; rintro e w' ⟨rfl, rfl⟩)
  go_ret
  exact ⟨rfl, rfl⟩
theorem lite_slash_any (s : ByteArray) (w : World) :
    Calls Tryz.prog 139 #[.string s, .int .u8 47] w fun e w' => e = .returned (.int .i64 (Pp.ix s)) ∧ w = w' := by
  have := lite_byte_any s 47 w
  rw [show ((47 : Int).toNat.toUInt8) = (47 : UInt8) from rfl, Pp.indexByte_fi] at this
  exact this
set_option maxRecDepth 100000 in
theorem lite_index_any (s : ByteArray) (w : World) :
    Calls Tryz.prog 179 #[.string s, .string ⟨#[47]⟩] w fun e w' => e = .returned (.int .i64 (Pp.ix s)) ∧ w = w' := by
  have k := lite_slash_any s w
  by_cases h : s = ⟨#[47]⟩
  · subst h
    have e : Pp.ix ⟨#[47]⟩ = 0 := by decide +kernel
    rw [e]
    go_enter Tryz.func179, Tryz.ntmps179
    go_wp2
    go_ret
    exact ⟨rfl, rfl⟩
  · have g := Pp.toList_ne (Ne.symm h)
    rw [Pp.slash_toList] at g
    generalize Pp.ix s = r at *
    have k := Lib.hid k
    go_enter Tryz.func179, Tryz.ntmps179
    go_wp2_with (go_at_call 139; refine k.out.mono ?_; rintro e w' ⟨rfl, rfl⟩)
    go_ret
    exact ⟨rfl, rfl⟩
theorem index_any (s : ByteArray) (w : World) :
    Calls Tryz.prog 175 #[.string s, .string ⟨#[47]⟩] w fun e w' => e = .returned (.int .i64 (Pp.ix s)) ∧ w = w' := by
  go_enter Tryz.func175, Tryz.ntmps175
  go_wp2_with (go_at_call 179; refine (lite_index_any _ _).mono ?_; rintro e w' ⟨rfl, rfl⟩)
  go_ret
  exact ⟨rfl, rfl⟩
theorem contains_any (s : ByteArray) (w : World) :
    Calls Tryz.prog 158 #[.string s, .string ⟨#[47]⟩] w fun e w' => e = .returned (.bool (decide (Pp.fi s < s.size))) ∧ w = w' := by
  have k := index_any s w
  unfold Pp.ix at k
  by_cases h : Pp.fi s < s.size
  · rw [if_pos h] at k
    have e : decide (Pp.fi s < s.size) = true := by simp [h]
    rw [e]
    generalize Pp.fi s = r at *
    have k := Lib.hid k
    go_enter Tryz.func158, Tryz.ntmps158
    go_wp2_with (go_at_call 175; refine k.out.mono ?_; rintro e w' ⟨rfl, rfl⟩)
    go_ret
    exact ⟨ret_bool (by simp), rfl⟩
  · rw [if_neg h] at k
    have e : decide (Pp.fi s < s.size) = false := by simp; omega
    rw [e]
    have k := Lib.hid k
    go_enter Tryz.func158, Tryz.ntmps158
    go_wp2_with (go_at_call 175; refine k.out.mono ?_; rintro e w' ⟨rfl, rfl⟩)
    go_ret
    exact ⟨rfl, rfl⟩
/-- What 'Cut' answers at a slash. -/
def cutV (s : ByteArray) : Value := if Pp.fi s < s.size then .tuple #[.string (Pp.hd s), .string (Pp.tl s), .bool true] else .tuple #[.string s, .string ⟨#[]⟩, .bool false]
theorem lite_cut_any (s : ByteArray) (w : World) (hs : s.size ≤ 1000000) :
    Calls Tryz.prog 168 #[.string s, .string ⟨#[47]⟩] w fun e w' => e = .returned (cutV s) ∧ ∃ n, w' = w.drewN n := by
  have k := lite_index_any s w
  have hv : cutV s = if Pp.fi s < s.size then .tuple #[.string (s.extract 0 (Pp.fi s)), .string (s.extract (Pp.fi s + 1) s.size), .bool true] else .tuple #[.string s, .string ⟨#[]⟩, .bool false] := rfl
  unfold Pp.ix at k
  generalize cutV s = v at *
  have hle := Pp.fi_le s
  by_cases h : Pp.fi s < s.size
  · rw [if_pos h] at k hv
    generalize Pp.fi s = r at *
    have k := Lib.hid k; have hv := Lib.hid hv
    have s1 : IntKind.i64.wrap ((r : Int) + 1) = (r : Int) + 1 := IntWalk.i64_in _ (by omega)
    have s2 : ((r : Int) + 1).toNat = r + 1 := by omega
    have s3 : (0 : Int) ≤ (r : Int) + 1 := by omega
    have s4 : r + 1 ≤ s.size := by omega
    go_enter Tryz.func168, Tryz.ntmps168
    go_wp2_with (go_at_call 179; refine k.out.mono ?_; rintro e w' ⟨rfl, rfl⟩)
    go_quiet (fail)
    go_wp2
    go_ret3
    exact ⟨by rw [hv.out]; rfl, _, rfl⟩
  · rw [if_neg h] at k hv
    have k := Lib.hid k; have hv := Lib.hid hv
    go_enter Tryz.func168, Tryz.ntmps168
    go_wp2_with (go_at_call 179; refine k.out.mono ?_; rintro e w' ⟨rfl, rfl⟩)
    go_ret3
    exact ⟨by rw [hv.out]; rfl, 0, rfl⟩
theorem cut_any (s : ByteArray) (w : World) (hs : s.size ≤ 1000000) :
    Calls Tryz.prog 150 #[.string s, .string ⟨#[47]⟩] w fun e w' => e = .returned (cutV s) ∧ ∃ n, w' = w.drewN n := by
  have k := lite_cut_any s w hs
  obtain ⟨x, y, z, hx⟩ : ∃ x y z, cutV s = .tuple #[.string x, .string y, .bool z] := by
    unfold cutV
    by_cases h : Pp.fi s < s.size
    · rw [if_pos h]; exact ⟨_, _, _, rfl⟩
    · rw [if_neg h]; exact ⟨_, _, _, rfl⟩
  rw [hx] at k ⊢
  go_enter Tryz.func150, Tryz.ntmps150
  go_wp2_with (go_at_call 168; (with_reducible refine k.mono ?_); rintro e w' ⟨rfl, n, rfl⟩)
  go_ret3
  exact ⟨rfl, _, rfl⟩
/-- What 'CutPrefix' answers. -/
def cutpV (s t : ByteArray) : Value := if Pp.Pre t s then .tuple #[.string (s.extract t.size s.size), .bool true] else .tuple #[.string s, .bool false]
end Go.Proofs.YtjofdgjcbjdhbaaGreatDoor
/- WALKS OF LAYER 4, SECOND PART: names; a path's parent and base; two joined; what lies under another one. -/
namespace Go.Proofs.YtjofdgjcbjdhbaaGreatDoor
set_option linter.unusedVariables false
open Go.RowKit
set_option maxHeartbeats 400000
set_option maxRecDepth 100000
theorem mem_byte {s : ByteArray} {c : UInt8} : c ∈ s.data.toList ↔ ∃ (i : Nat) (h : i < s.size), s[i] = c := by
  rw [List.mem_iff_getElem]
  constructor
  · rintro ⟨i, h, e⟩
    exact ⟨i, h, e⟩
  · rintro ⟨i, h, e⟩
    exact ⟨i, h, e⟩
theorem one_dot : (⟨#[46]⟩ : ByteArray).toList = [46] := by decide +kernel
theorem two_dots : (⟨#[46, 46]⟩ : ByteArray).toList = [46, 46] := by decide +kernel
theorem no_bytes : (⟨#[]⟩ : ByteArray).toList = [] := by decide +kernel
theorem size_zero {s : ByteArray} : s.size = 0 ↔ s = ⟨#[]⟩ := by
  constructor
  · intro h
    apply ByteArray.ext
    exact Array.eq_empty_of_size_eq_zero h
  · rintro rfl; rfl
theorem isEmpty_eq (s : ByteArray) : s.toList.isEmpty = decide (s.size = 0) := by
  rw [Lib.toList_data, Pp.size_eq]
  cases s.data.toList <;> simp
theorem toList_inj {s t : ByteArray} (h : s.toList = t.toList) : s = t := by
  rw [Lib.toList_data, Lib.toList_data] at h
  rw [← Lib.mk_data s, ← Lib.mk_data t, h]
theorem byte0_iff (s : ByteArray) : Lib.indexByte s.data.toList 0 < 0 ↔ (0 : UInt8) ∉ s.data.toList := by
  have i0 := Lib.indexByte_ge s.data.toList 0
  constructor
  · intro h hm
    have h1 : Lib.indexByte s.data.toList 0 = -1 := by omega
    obtain ⟨i, hi, e⟩ := List.mem_iff_getElem.1 hm
    exact Lib.indexByte_none h1 i (by rw [List.getElem?_eq_getElem hi, e])
  · intro h
    by_cases h1 : Lib.indexByte s.data.toList 0 = -1
    · omega
    · obtain ⟨o, ho⟩ : ∃ o : Nat, Lib.indexByte s.data.toList 0 = o := ⟨(Lib.indexByte s.data.toList 0).toNat, by omega⟩
      exact absurd (List.mem_of_getElem? (Lib.indexByte_some ho).1) h
theorem nm_empty : decide (Pp.Nm ⟨#[]⟩) = false := by decide +kernel
theorem nm_dot : decide (Pp.Nm ⟨#[46]⟩) = false := by decide +kernel
theorem nm_dots : decide (Pp.Nm ⟨#[46, 46]⟩) = false := by decide +kernel
theorem name_any (s : ByteArray) (w : World) (hs : s.size ≤ 1000000) :
    Calls Tryz.prog 138 #[.string s] w fun e w' => e = .returned (.bool (decide (Pp.Nm s))) ∧ w = w' := by
  by_cases c0 : s = ⟨#[]⟩
  · subst c0
    rw [nm_empty]
    go_enter Tryz.func138, Tryz.ntmps138
    go_wp2
    go_ret
    exact ⟨rfl, rfl⟩
  by_cases c1 : s = ⟨#[46]⟩
  · subst c1
    rw [nm_dot]
    go_enter Tryz.func138, Tryz.ntmps138
    go_wp2
    go_ret
    exact ⟨rfl, rfl⟩
  by_cases c2 : s = ⟨#[46, 46]⟩
  · subst c2
    rw [nm_dots]
    go_enter Tryz.func138, Tryz.ntmps138
    go_wp2
    go_ret
    exact ⟨rfl, rfl⟩
  have c0' : ¬ s.size = 0 := fun h => c0 (size_zero.1 h)
  have c3 : ¬ s = ByteArray.empty := c0
  have d0 : s.toList.isEmpty = false := by rw [isEmpty_eq]; simp [c0']
  have d1 : (s.toList == [46]) = false := by rw [← one_dot]; exact Pp.toList_ne c1
  have d2 : (s.toList == [46, 46]) = false := by rw [← two_dots]; exact Pp.toList_ne c2
  by_cases h60 : s.size ≤ 60
  · have k1 := str_byte_any s 0 w
    have k2 := contains_any s w
    rw [show ((0 : Int).toNat.toUInt8) = (0 : UInt8) from rfl] at k1
    have hres : decide (Pp.Nm s) = (decide (Lib.indexByte s.data.toList 0 < 0) && ! decide (Pp.fi s < s.size)) := by
      rw [Bool.eq_iff_iff]
      simp only [decide_eq_true_eq, Bool.and_eq_true, Bool.not_eq_true', decide_eq_false_iff_not]
      rw [byte0_iff, Pp.fi_mem]
      unfold Pp.Nm
      constructor
      · exact fun h => h.2
      · exact fun h => ⟨⟨by omega, h60, c1, c2⟩, h⟩
    rw [hres]
    generalize Lib.indexByte s.data.toList 0 = r at *
    have h60' : ¬ (60 : Int) < s.size := by omega
    by_cases hr : r < 0
    · generalize decide (Pp.fi s < s.size) = b at *
      rw [decide_eq_true hr]
      have K1 := Lib.hid k1; have K2 := Lib.hid k2; clear k1 k2 hres c0 c1 c2 c3
      go_enter Tryz.func138, Tryz.ntmps138
      go_wp2_with (first | (go_at_call 117; refine K1.out.mono ?_; rintro e w' ⟨rfl, rfl⟩) | (go_at_call 158; refine K2.out.mono ?_; rintro e w' ⟨rfl, rfl⟩))
      go_ret
      exact ⟨ret_bool (by simp), rfl⟩
    · rw [decide_eq_false hr]
      have K1 := Lib.hid k1; clear k1 k2 hres c0 c1 c2 c3
      go_enter Tryz.func138, Tryz.ntmps138
      go_wp2_with (first | (go_at_call 117; refine K1.out.mono ?_; rintro e w' ⟨rfl, rfl⟩))
      go_ret
      exact ⟨ret_bool (by simp), rfl⟩
  · have hres : decide (Pp.Nm s) = false := by
      rw [decide_eq_false_iff_not]
      exact fun h => h60 h.1.2.1
    rw [hres]
    have h60' : (60 : Int) < s.size := by omega
    clear c0 c1 c2 c3 hres
    go_enter Tryz.func138, Tryz.ntmps138
    go_wp2
    go_ret
    exact ⟨rfl, rfl⟩
theorem refname_any (s : ByteArray) (w : World) (hs : s.size ≤ 1000000) :
    Calls Tryz.prog 95 #[.string s] w fun e w' => e = .returned (.bool (decide (Pp.Nm s))) ∧ w = w' := by
  go_enter Tryz.func95, Tryz.ntmps95
  go_wp2
  go_loop [3] (fun i => ∃ k : Nat, k ≤ s.size ∧ i = .int .i64 k ∧ Hid (∀ j (h : j < s.size), j < k → s[j] ≠ 0 ∧ s[j] ≠ 47)) (fun i => s.size - (intOf i).toNat)
  case atStart => exact ⟨0, by omega, rfl, fun j _ h => absurd h (by omega)⟩
  case round =>
    obtain ⟨k, hk, rfl, HK⟩ := hrel
    by_cases h1 : k < s.size
    · have h1' : (k : Int) < s.size := by omega
      by_cases h2 : s[k] = 0
      · have g : ((s[k].toNat : Int) == 0) = true := by rw [h2]; rfl
        have hres : decide (Pp.Nm s) = false := by
          rw [decide_eq_false_iff_not]
          exact fun h => h.2.1 (mem_byte.2 ⟨k, h1, h2⟩)
        have HR := Lib.hid hres; clear hres h2
        go_wp2
        go_ret
        exact ⟨ret_bool HR.out.symm, rfl⟩
      · have g : ((s[k].toNat : Int) == 0) = false := Pp.ne_byte h2
        by_cases h3 : s[k] = 47
        · have g2 : ((s[k].toNat : Int) == 47) = true := by rw [h3]; rfl
          have hres : decide (Pp.Nm s) = false := by
            rw [decide_eq_false_iff_not]
            exact fun h => h.2.2 (mem_byte.2 ⟨k, h1, h3⟩)
          have HR := Lib.hid hres; clear hres h2 h3
          go_wp2
          go_ret
          exact ⟨ret_bool HR.out.symm, rfl⟩
        · have g2 : ((s[k].toNat : Int) == 47) = false := Pp.ne_byte h3
          have hn : Hid (∀ j (h : j < s.size), j < k + 1 → s[j] ≠ 0 ∧ s[j] ≠ 47) := fun j h hj => by
            by_cases e : j = k
            · subst e; exact ⟨h2, h3⟩
            · exact HK.out j h (by omega)
          clear h2 h3
          go_wp2
          go_round
          case rel => exact ⟨k + 1, by omega, by go_num, hn⟩
          case measure => simp [intOf]; omega
    · have e : k = s.size := by omega
      subst e
      have hn : (0 : UInt8) ∉ s.data.toList ∧ (47 : UInt8) ∉ s.data.toList := by
        constructor
        · intro h
          obtain ⟨i, hi, e⟩ := mem_byte.1 h
          exact (HK.out i hi hi).1 e
        · intro h
          obtain ⟨i, hi, e⟩ := mem_byte.1 h
          exact (HK.out i hi hi).2 e
      have hres : decide (Pp.Nm s) = (decide (1 ≤ s.size) && decide (s.size ≤ 60) && !(s.toList == [46]) && !(s.toList == [46, 46])) := by
        have e1 := Pp.toList_eq s ⟨#[46]⟩
        have e2 := Pp.toList_eq s ⟨#[46, 46]⟩
        rw [one_dot] at e1
        rw [two_dots] at e2
        rw [e1, e2, Bool.eq_iff_iff]
        simp only [decide_eq_true_eq, Bool.and_eq_true, Bool.not_eq_true', decide_eq_false_iff_not]
        unfold Pp.Nm
        constructor
        · rintro ⟨⟨a, b, c, d⟩, _⟩
          exact ⟨⟨⟨a, b⟩, c⟩, d⟩
        · rintro ⟨⟨⟨a, b⟩, c⟩, d⟩
          exact ⟨⟨a, b, c, d⟩, hn⟩
      have HR := Lib.hid hres; clear hres hn h1
      by_cases h4 : 1 ≤ s.size
      · have h4' : (1 : Int) ≤ s.size := by omega
        by_cases h5 : s.size ≤ 60
        · have h5' : (s.size : Int) ≤ 60 := by omega
          go_wp2
          all_goals
            go_ret
            refine ⟨ret_bool ?_, rfl⟩
            rw [HR.out]
            simp_all
        · have h5' : ¬ (s.size : Int) ≤ 60 := by omega
          go_wp2
          go_ret
          refine ⟨ret_bool ?_, rfl⟩
          rw [HR.out]
          simp [h5]
      · have h4' : ¬ (1 : Int) ≤ s.size := by omega
        go_wp2
        go_ret
        refine ⟨ret_bool ?_, rfl⟩
        rw [HR.out]
        simp [h4]
/-- What stands ahead of the last slash; behind it. -/
def parentS (s : ByteArray) (r : Int) : ByteArray := s.extract 0 (max r 0).toNat
def baseS (s : ByteArray) (r : Int) : ByteArray := s.extract (r + 1).toNat s.size
theorem last_bd {s : ByteArray} {k : Nat} {r : Int} (h : Pp.IsLast s k r) : -1 ≤ r ∧ r < s.size := by
  rcases h with ⟨h, _⟩ | ⟨i, hi, _, h, _⟩
  · omega
  · omega
theorem ret_str {s t : ByteArray} (h : s = t) : Ending.returned (.string s) = .returned (.string t) := by rw [h]
theorem empty_app (s : ByteArray) : (⟨#[]⟩ : ByteArray) ++ s = s := by
  apply ByteArray.ext
  simp [ByteArray.data_append]
theorem app_empty (s : ByteArray) : s ++ (⟨#[]⟩ : ByteArray) = s := by
  apply ByteArray.ext
  simp [ByteArray.data_append]
/-- Two joined. -/
def joinS (t s : ByteArray) : ByteArray := if t.size = 0 then s else if s.size = 0 then t else t ++ ⟨#[47]⟩ ++ s
/-- What lies under. -/
def restV (s t : ByteArray) : ByteArray × Bool := if t.size = 0 then (s, decide (s.size ≠ 0)) else if Pp.Pre (t ++ ⟨#[47]⟩) s then (s.extract (t.size + 1) s.size, true) else (⟨#[]⟩, false)
end Go.Proofs.YtjofdgjcbjdhbaaGreatDoor
