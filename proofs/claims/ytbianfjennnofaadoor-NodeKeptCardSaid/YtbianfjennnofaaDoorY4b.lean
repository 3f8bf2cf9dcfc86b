/- WALKS OF LAYER 4, SECOND PART: names; a path's parent and base; two joined; what lies under another one. -/
import Derived.Test.YtbianfjennnofaaDoorY4a
namespace Go.Proofs.YtbianfjennnofaaDoor
set_option linter.unusedVariables false
open Go.RowKit
set_option maxHeartbeats 400000
set_option maxRecDepth 100000
theorem mem_byte {s : ByteArray} {c : UInt8} : c ∈ s.data.toList ↔ ∃ (i : Nat) (h : i < s.size), s[i] = c := by
  rw [List.mem_iff_getElem]
  constructor
  · rintro ⟨i, h, e⟩
    exact ⟨i, h, e⟩
  · rintro ⟨i, h, e⟩
    exact ⟨i, h, e⟩
theorem one_dot : (⟨#[46]⟩ : ByteArray).toList = [46] := by decide +kernel
theorem two_dots : (⟨#[46, 46]⟩ : ByteArray).toList = [46, 46] := by decide +kernel
theorem no_bytes : (⟨#[]⟩ : ByteArray).toList = [] := by decide +kernel
theorem size_zero {s : ByteArray} : s.size = 0 ↔ s = ⟨#[]⟩ := by
  constructor
  · intro h
    apply ByteArray.ext
    exact Array.eq_empty_of_size_eq_zero h
  · rintro rfl; rfl
theorem isEmpty_eq (s : ByteArray) : s.toList.isEmpty = decide (s.size = 0) := by
  rw [Lib.toList_data, Pp.size_eq]
  cases s.data.toList <;> simp
theorem toList_inj {s t : ByteArray} (h : s.toList = t.toList) : s = t := by
  rw [Lib.toList_data, Lib.toList_data] at h
  rw [← Lib.mk_data s, ← Lib.mk_data t, h]
theorem byte0_iff (s : ByteArray) : Lib.indexByte s.data.toList 0 < 0 ↔ (0 : UInt8) ∉ s.data.toList := by
  have i0 := Lib.indexByte_ge s.data.toList 0
  constructor
  · intro h hm
    have h1 : Lib.indexByte s.data.toList 0 = -1 := by omega
    obtain ⟨i, hi, e⟩ := List.mem_iff_getElem.1 hm
    exact Lib.indexByte_none h1 i (by rw [List.getElem?_eq_getElem hi, e])
  · intro h
    by_cases h1 : Lib.indexByte s.data.toList 0 = -1
    · omega
    · obtain ⟨o, ho⟩ : ∃ o : Nat, Lib.indexByte s.data.toList 0 = o := ⟨(Lib.indexByte s.data.toList 0).toNat, by omega⟩
      exact absurd (List.mem_of_getElem? (Lib.indexByte_some ho).1) h
theorem nm_empty : decide (Pp.Nm ⟨#[]⟩) = false := by decide +kernel
theorem nm_dot : decide (Pp.Nm ⟨#[46]⟩) = false := by decide +kernel
theorem nm_dots : decide (Pp.Nm ⟨#[46, 46]⟩) = false := by decide +kernel
theorem name_any (s : ByteArray) (w : World) (hs : s.size ≤ 1000000) :
    Calls Tryd.prog 55 #[.string s] w fun e w' => e = .returned (.bool (decide (Pp.Nm s))) ∧ w = w' := by
  by_cases c0 : s = ⟨#[]⟩
  · subst c0
    rw [nm_empty]
    go_enter Tryd.func55, Tryd.ntmps55
    go_wp2
    go_ret
    exact ⟨rfl, rfl⟩
  by_cases c1 : s = ⟨#[46]⟩
  · subst c1
    rw [nm_dot]
    go_enter Tryd.func55, Tryd.ntmps55
    go_wp2
    go_ret
    exact ⟨rfl, rfl⟩
  by_cases c2 : s = ⟨#[46, 46]⟩
  · subst c2
    rw [nm_dots]
    go_enter Tryd.func55, Tryd.ntmps55
    go_wp2
    go_ret
    exact ⟨rfl, rfl⟩
  have c0' : ¬ s.size = 0 := fun h => c0 (size_zero.1 h)
  have c3 : ¬ s = ByteArray.empty := c0
  have d0 : s.toList.isEmpty = false := by rw [isEmpty_eq]; simp [c0']
  have d1 : (s.toList == [46]) = false := by rw [← one_dot]; exact Pp.toList_ne c1
  have d2 : (s.toList == [46, 46]) = false := by rw [← two_dots]; exact Pp.toList_ne c2
  by_cases h60 : s.size ≤ 60
  · have k1 := str_byte_any s 0 w
    have k2 := contains_any s w
    rw [show ((0 : Int).toNat.toUInt8) = (0 : UInt8) from rfl] at k1
    have hres : decide (Pp.Nm s) = (decide (Lib.indexByte s.data.toList 0 < 0) && ! decide (Pp.fi s < s.size)) := by
      rw [Bool.eq_iff_iff]
      simp only [decide_eq_true_eq, Bool.and_eq_true, Bool.not_eq_true', decide_eq_false_iff_not]
      rw [byte0_iff, Pp.fi_mem]
      unfold Pp.Nm
      constructor
      · exact fun h => h.2
      · exact fun h => ⟨⟨by omega, h60, c1, c2⟩, h⟩
    rw [hres]
    generalize Lib.indexByte s.data.toList 0 = r at *
    have h60' : ¬ (60 : Int) < s.size := by omega
    by_cases hr : r < 0
    · generalize decide (Pp.fi s < s.size) = b at *
      rw [decide_eq_true hr]
      have K1 := Lib.hid k1; have K2 := Lib.hid k2; clear k1 k2 hres c0 c1 c2 c3
      go_enter Tryd.func55, Tryd.ntmps55
      go_wp2_with (first | (go_at_call 41; refine K1.out.mono ?_; rintro e w' ⟨rfl, rfl⟩) | (go_at_call 63; refine K2.out.mono ?_; rintro e w' ⟨rfl, rfl⟩))
      go_ret
      exact ⟨ret_bool (by simp), rfl⟩
    · rw [decide_eq_false hr]
      have K1 := Lib.hid k1; clear k1 k2 hres c0 c1 c2 c3
      go_enter Tryd.func55, Tryd.ntmps55
      go_wp2_with (first | (go_at_call 41; refine K1.out.mono ?_; rintro e w' ⟨rfl, rfl⟩))
      go_ret
      exact ⟨ret_bool (by simp), rfl⟩
  · have hres : decide (Pp.Nm s) = false := by
      rw [decide_eq_false_iff_not]
      exact fun h => h60 h.1.2.1
    rw [hres]
    have h60' : (60 : Int) < s.size := by omega
    clear c0 c1 c2 c3 hres
    go_enter Tryd.func55, Tryd.ntmps55
    go_wp2
    go_ret
    exact ⟨rfl, rfl⟩
/-- What stands ahead of the last slash; behind it. -/
def parentS (s : ByteArray) (r : Int) : ByteArray := s.extract 0 (max r 0).toNat
def baseS (s : ByteArray) (r : Int) : ByteArray := s.extract (r + 1).toNat s.size
theorem last_bd {s : ByteArray} {k : Nat} {r : Int} (h : Pp.IsLast s k r) : -1 ≤ r ∧ r < s.size := by
  rcases h with ⟨h, _⟩ | ⟨i, hi, _, h, _⟩
  · omega
  · omega
theorem parent_any (s : ByteArray) (w : World) (hs : s.size ≤ 1000000) (r : Int) (hr : Pp.IsLast s s.size r) :
    Calls Tryd.prog 46 #[.string s] w fun e w' => e = .returned (.string (parentS s r)) ∧ w = w' := by
  have k := Lib.hid (lastindex_any s w hs r hr)
  obtain ⟨h1, h2⟩ := last_bd hr
  clear hr
  unfold parentS
  by_cases h0 : r < 0
  · obtain rfl : r = -1 := by omega
    go_enter Tryd.func46, Tryd.ntmps46
    go_wp2_with (go_at_call 56; refine k.out.mono ?_; rintro e w' ⟨rfl, rfl⟩)
    go_ret
    exact ⟨rfl, rfl⟩
  · obtain ⟨i, rfl⟩ : ∃ i : Nat, r = i := ⟨r.toNat, by omega⟩
    rw [show max (i : Int) 0 = i from by omega, Int.toNat_natCast]
    have h3 : i ≤ s.size := by omega
    go_enter Tryd.func46, Tryd.ntmps46
    go_wp2_with (go_at_call 56; refine k.out.mono ?_; rintro e w' ⟨rfl, rfl⟩)
    go_ret
    exact ⟨rfl, rfl⟩
theorem base_any (s : ByteArray) (w : World) (hs : s.size ≤ 1000000) (r : Int) (hr : Pp.IsLast s s.size r) :
    Calls Tryd.prog 47 #[.string s] w fun e w' => e = .returned (.string (baseS s r)) ∧ w = w' := by
  have k := Lib.hid (lastindex_any s w hs r hr)
  obtain ⟨h1, h2⟩ := last_bd hr
  clear hr
  unfold baseS
  obtain ⟨i, hi⟩ : ∃ i : Nat, r = (i : Int) - 1 := ⟨(r + 1).toNat, by omega⟩
  subst hi
  have h3 : i ≤ s.size := by omega
  rw [show ((i : Int) - 1 + 1) = i from by omega, Int.toNat_natCast]
  have s1 : IntKind.i64.wrap ((i : Int) - 1 + 1) = (i : Int) := by rw [show ((i : Int) - 1 + 1) = i from by omega]; exact IntWalk.i64_in _ (by omega)
  go_enter Tryd.func47, Tryd.ntmps47
  go_wp2_with (go_at_call 56; refine k.out.mono ?_; rintro e w' ⟨rfl, rfl⟩)
  go_ret
  exact ⟨rfl, rfl⟩
theorem ret_str {s t : ByteArray} (h : s = t) : Ending.returned (.string s) = .returned (.string t) := by rw [h]
theorem empty_app (s : ByteArray) : (⟨#[]⟩ : ByteArray) ++ s = s := by
  apply ByteArray.ext
  simp [ByteArray.data_append]
theorem app_empty (s : ByteArray) : s ++ (⟨#[]⟩ : ByteArray) = s := by
  apply ByteArray.ext
  simp [ByteArray.data_append]
/-- Two joined. -/
def joinS (t s : ByteArray) : ByteArray := if t.size = 0 then s else if s.size = 0 then t else t ++ ⟨#[47]⟩ ++ s
/-- What lies under. -/
def restV (s t : ByteArray) : ByteArray × Bool := if t.size = 0 then (s, decide (s.size ≠ 0)) else if Pp.Pre (t ++ ⟨#[47]⟩) s then (s.extract (t.size + 1) s.size, true) else (⟨#[]⟩, false)
theorem rest_any (s t : ByteArray) (w : World) (hs : s.size ≤ 1000000) (ht : t.size ≤ 100000) :
    Calls Tryd.prog 51 #[.string s, .string t] w fun e w' => e = .returned (.tuple #[.string (restV s t).1, .bool (restV s t).2]) ∧ w = w' := by
  have hv : restV s t = if t.size = 0 then (s, decide (s.size ≠ 0)) else if Pp.Pre (t ++ ⟨#[47]⟩) s then (s.extract (t.size + 1) s.size, true) else (⟨#[]⟩, false) := rfl
  generalize restV s t = v at *
  by_cases h : t.size = 0
  · rw [if_pos h] at hv
    subst hv
    obtain rfl := size_zero.1 h
    by_cases h2 : s.size = 0
    · obtain rfl := size_zero.1 h2
      clear h h2
      go_enter Tryd.func51, Tryd.ntmps51
      go_wp2
      go_ret2
      exact ⟨rfl, rfl⟩
    · have g2 : s.toList.isEmpty = false := by rw [isEmpty_eq]; simp [h2]
      have e : decide (s.size ≠ 0) = true := by simp [h2]
      rw [e]
      clear h h2 e
      go_enter Tryd.func51, Tryd.ntmps51
      go_wp2
      go_ret2
      exact ⟨rfl, rfl⟩
  · rw [if_neg h] at hv
    have g : t.toList.isEmpty = false := by rw [isEmpty_eq]; simp [h]
    have hsz : (t ++ (⟨#[47]⟩ : ByteArray)).size = t.size + 1 := Pp.app_size t ⟨#[47]⟩
    have k := cutp_any s (t ++ ⟨#[47]⟩) w hs (by omega)
    unfold cutpV at k
    clear h
    by_cases h2 : Pp.Pre (t ++ ⟨#[47]⟩) s
    · rw [if_pos h2, hsz] at k
      rw [if_pos h2] at hv
      subst hv
      have k := Lib.hid k
      clear h2 hsz
      go_enter Tryd.func51, Tryd.ntmps51
      go_wp2_with (go_at_call 60; refine k.out.mono ?_; rintro e w' ⟨rfl, rfl⟩)
      go_ret2
      exact ⟨rfl, rfl⟩
    · rw [if_neg h2] at k hv
      subst hv
      have k := Lib.hid k
      clear h2 hsz
      go_enter Tryd.func51, Tryd.ntmps51
      go_wp2_with (go_at_call 60; refine k.out.mono ?_; rintro e w' ⟨rfl, rfl⟩)
      go_ret2
      exact ⟨rfl, rfl⟩
theorem under_any (s t : ByteArray) (w : World) (hs : s.size ≤ 1000000) (ht : t.size ≤ 100000) :
    Calls Tryd.prog 40 #[.string s, .string t] w fun e w' => e = .returned (.bool (restV s t).2) ∧ w = w' := by
  have k := rest_any s t w hs ht
  generalize restV s t = v at *
  have k := Lib.hid k
  go_enter Tryd.func40, Tryd.ntmps40
  go_wp2_with (go_at_call 51; refine k.out.mono ?_; rintro e w' ⟨rfl, rfl⟩)
  go_ret
  exact ⟨rfl, rfl⟩
end Go.Proofs.YtbianfjennnofaaDoor
