/- WALKS OF LAYER 2, SECOND PART: strf.Loose, Get and their reference's: what a field's text is. -/
import Derived.Test.YthgbncpiehcghaaGreatDoorV2a
import Derived.Test.YthgbncpiehcghaaGreatDoorOb
namespace Go.Proofs.YthgbncpiehcghaaGreatDoor
open Go.RowKit
set_option maxHeartbeats 400000
set_option maxRecDepth 100000
def CutPost (A : Option Addr) (z c : Nat) (w : World) (e : Ending) (w' : World) : Prop := ∃ v2 v3 k, e = .returned (.tuple #[.slice A z c, v2, v3]) ∧ w' = w.drewN k
theorem refloose_any (A : Option Addr) (n c : Nat) (xs : List Int) (w : World) (ha : RB w w.heap.size A n xs) (hx : Byt xs) (hn : n ≤ 1000000) :
    Calls Tryz.prog 158 #[.slice A n c] w fun e w' => e = .returned (.string (strOfNums (Sf.looseS xs))) ∧ w = w' := by
  have hconv := ha.conv c
  have hle := Sf.zi_le xs
  have hxl := ha.1
  have hsz := Sf.size_strOfNums xs
  have hz := refzero_any (strOfNums xs) w (by omega)
  rw [Sf.zb_strOfNums xs hx] at hz
  have hex : (strOfNums xs).extract 0 (Sf.zi xs) = strOfNums (Sf.looseS xs) := by
    apply ByteArray.ext
    apply Array.toList_inj.1
    rw [Sf.data_strOfNums, Lib.extract_data, Sf.data_strOfNums]
    simp [Sf.looseS, List.map_take]
  have hle2 : Sf.zi xs ≤ (strOfNums xs).size := by omega
  generalize strOfNums xs = s at *
  have HZ := Lib.hid hz; have HEX := Lib.hid hex; clear hz hex hsz hxl
  go_enter Tryz.func158, Tryz.ntmps158
  go_wp2_with (go_at_call 174; (with_reducible refine HZ.out.mono ?_); rintro e w' ⟨rfl, rfl⟩)
  go_ret
  exact ⟨by rw [← HEX.out]; rfl, rfl⟩
theorem get_facts (xs : List Int) (k : Nat) (hz : Sf.zi xs ≤ k) (h1 : ∀ j, Sf.zi xs ≤ j → j < k → xs.getD j 0 = 0) : (k < xs.length → xs.getD k 0 ≠ 0 → Sf.getS xs = ([], 3)) ∧ (xs.length ≤ k → Sf.getS xs = (Sf.looseS xs, 0)) := by
  constructor
  · intro hk hx
    have : Sf.okG xs = false := by
      unfold Sf.okG
      rw [List.all_eq_false]
      refine ⟨xs.getD k 0, ?_, by simpa using hx⟩
      rw [List.mem_drop_iff_getElem]
      exact ⟨k - Sf.zi xs, by omega, by simp [List.getD, show Sf.zi xs + (k - Sf.zi xs) = k from by omega, hk]⟩
    simp [Sf.getS, this]
  · intro hk
    have : Sf.okG xs = true := by
      unfold Sf.okG
      rw [List.all_eq_true]
      intro x hx
      rw [List.mem_drop_iff_getElem] at hx
      obtain ⟨i, hi, rfl⟩ := hx
      have := h1 (Sf.zi xs + i) (by omega) (by omega)
      rw [List.getD, List.getElem?_eq_getElem (by omega)] at this
      simpa using this
    simp [Sf.getS, this]
end Go.Proofs.YthgbncpiehcghaaGreatDoor
