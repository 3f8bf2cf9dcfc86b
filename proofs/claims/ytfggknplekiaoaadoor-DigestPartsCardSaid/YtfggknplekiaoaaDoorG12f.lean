/- WALKS OF LAYER 12, THE PROGRAM, SIXTH PART: isMade, New, Len, Write. -/
import Derived.Test.YtfggknplekiaoaaDoorG12e
namespace Go.Proofs.YtfggknplekiaoaaDoor
open Go Go.RowKit
set_option maxHeartbeats 4000000
set_option maxRecDepth 100000
set_option linter.unusedVariables false
/-- BYTES THAT DO NOT LIE IN THE BLOCK Z. -/
def RN (w : World) (Z : Nat) (A : Option Addr) (n : Nat) (xs : List Int) : Prop :=
  xs.length = n ∧ (0 < n → ∃ b o, A = some ⟨b, o, none⟩ ∧ b < w.heap.size ∧ b ≠ Z ∧ ∀ j, j < n → w.cell? ⟨b, o + j, none⟩ = some (.int .u8 (xs.getD j 0)))
section
variable {w w' : World} {Z B n : Nat} {A : Option Addr} {xs : List Int}
theorem RN.of (h : RB w B A n xs) (hz : B ≤ Z) (hb : B ≤ w.heap.size) : RN w Z A n xs :=
  ⟨h.1, fun hn => by obtain ⟨b, o, e, hl, hc⟩ := h.2 hn; exact ⟨b, o, e, by omega, by omega, hc⟩⟩
theorem RN.own {e : TypeId} {v : Value} (h : OBn w B e v n xs) (hz : Z < B) : ∃ A c, v = .slice A n c ∧ RN w Z A n xs ∧ n ≤ c ∧ c ≤ maxLen := by
  have hh := h
  have hl := h.len
  rcases h.2 with ⟨rfl, h0⟩ | ⟨g, cap, cur, rfl, hb, hg, hnc, hcm, hcs, htake⟩
  · exact ⟨none, 0, by rw [h0], ⟨hl, fun hn => by omega⟩, by omega, Nat.zero_le _⟩
  · refine ⟨_, cap, rfl, ⟨hl, fun hn => ⟨g, 0, rfl, (World.ownsRow.lt hh g rfl).2, by omega, fun j hj => ?_⟩⟩, hnc, hcm⟩
    rw [Nat.zero_add]
    exact OBn.cell hh j hj
theorem RN.oth (h : RN w Z A n xs) (ho : Oth Z w w') : RN w' Z A n xs :=
  ⟨h.1, fun hn => by
    obtain ⟨b, o, e, hl, hz, hc⟩ := h.2 hn
    refine ⟨b, o, e, Nat.lt_of_lt_of_le hl ho.2.2.2.1, hz, fun j hj => ?_⟩
    rw [← hc j hj]
    unfold World.cell?
    rw [ho.2.2.2.2 b hl hz]⟩
theorem RN.add (h : RN w Z A n xs) {k : Nat} (hk : k ≤ n) : RN w Z (A.map fun x => x.add k) (n - k) (xs.drop k) := by
  refine ⟨by rw [List.length_drop, h.1], fun hn => ?_⟩
  obtain ⟨b, o, rfl, hl, hz, hc⟩ := h.2 (by omega)
  refine ⟨b, o + k, by simp [Lib.add_plain], hl, hz, fun j hj => ?_⟩
  rw [show o + k + j = o + (k + j) from by omega, hc (k + j) (by omega)]
  simp [List.getD_eq_getElem?_getD, List.getElem?_drop]
end
theorem isMade_any (a : Nat) (w : World) (h : w.cell? ⟨a, 0, none⟩ = some (.bool true)) :
    Calls Tryd.prog 19 #[.pointer (some ⟨a, 0, none⟩)] w fun e w' => e = .returned (.bool true) ∧ w = w' := by
  go_enter Tryd.func19, Tryd.ntmps19
  go_wp2
  go_ret
  exact ⟨rfl, rfl⟩
theorem isMade_nil (w : World) :
    Calls Tryd.prog 19 #[.pointer none] w fun e w' => e = .returned (.bool false) ∧ w = w' := by
  go_enter Tryd.func19, Tryd.ntmps19
  go_wp2
  go_ret
  exact ⟨rfl, rfl⟩
theorem isMade_not (a : Nat) (w : World) (h : w.cell? ⟨a, 0, none⟩ = some (.bool false)) :
    Calls Tryd.prog 19 #[.pointer (some ⟨a, 0, none⟩)] w fun e w' => e = .returned (.bool false) ∧ w = w' := by
  go_enter Tryd.func19, Tryd.ntmps19
  go_wp2
  go_ret
  exact ⟨rfl, rfl⟩
theorem len_any12 {a n : Nat} {wl : List Nat} {rl : List Int} (w : World) (h : SX w a wl rl n) :
    Calls Tryd.prog 12 #[.pointer (some ⟨a, 0, none⟩)] w fun e w' => e = .returned (.int .u64 n) ∧ w = w' := by
  have im := Lib.hid (isMade_any a w h.made)
  have c := h.cnt
  clear h
  go_enter Tryd.func12, Tryd.ntmps12
  go_wp2_with (go_at_call 19; (with_reducible refine (im.out).mono ?_); rintro e w1 ⟨rfl, rfl⟩)
  go_ret
  exact ⟨rfl, rfl⟩
theorem wpList_build_to {P : Program} {ops : Array Oper} {rest : List Oper} {o : Oper} {a : Act} {w : World} {Q : Exit → Act → World → Prop} (hg : o.guard = none) (t : TypeId) (parts : Array (Nat × Operand)) (ho : o.op = .build t parts) (cells : Array Value)
    (hf : P.built t (parts.map fun (i, x) => (i, a.eval x)).toList = some cells) (h : wpList P ops Q rest (a.put o.dst (.agg cells)) w) : wpList P ops Q (o :: rest) a w := by
  refine wpList_build hg t parts ho (by rw [hf]; rfl) ?_
  rw [hf]
  exact h
theorem new_any (w : World) (h : HT w) :
    Calls Tryd.prog 9 #[] w fun e w' => e = .returned (.pointer (some ⟨w.heap.size, 0, none⟩)) ∧ SX w' w.heap.size Dg.H.l (List.replicate 64 0) 0 ∧ Below w.heap.size w w' := by
  have rg : w.rangeAt 0 0 (Dg.H.l.map vw) := fun j v hj => by
    have hl : j < 8 := by have := (List.getElem?_eq_some_iff.1 hj).1; rwa [List.length_map, Dg.l_len] at this
    have := Lib.TabIs.cell h (show Tryd.prog.globalNamed "thwart/digest.squareRoots" = some 0 by kernel_rfl) j (by show j < (ints Dg.H.l).length; unfold ints; rw [List.length_map, Dg.l_len]; exact hl)
    rw [Nat.zero_add, this, ← hj]
    rcases (by omega : j = 0 ∨ j = 1 ∨ j = 2 ∨ j = 3 ∨ j = 4 ∨ j = 5 ∨ j = 6 ∨ j = 7) with rfl | rfl | rfl | rfl | rfl | rfl | rfl | rfl <;> rfl
  have TS := Lib.hid (show (Tryd.prog.info? 40).map (·.size) = some 8 by kernel_rfl)
  go_enter Tryd.func9, Tryd.ntmps9
  go_upto_region 1 with (fail)
  refine wp_region_lit ?_
  refine wpList_load_mid rfl 40 (.global 0) rfl 0 0 rfl (Dg.H.l.map vw) _ rg Tryd.underlying40 rfl (by rw [List.length_map, Dg.l_len]; exact TS.out) ?_
  obtain ⟨S0, hS0⟩ : ∃ S0, (scs true Dg.H.l (List.replicate 64 0) 0).toArray = S0 := ⟨_, rfl⟩
  refine wpList_build_to rfl 43 #[(0, .const (.bool true)), (1, .tmp 1)] rfl S0 (by rw [← hS0]; kernel_rfl) ?_
  have hbx := BX.new w 43 S0
  have HBX := Lib.hid hbx; have HS0 := Lib.hid hS0
  clear rg hbx hS0
  go_wp2
  go_ret
  exact ⟨rfl, ⟨by rw [HS0.out]; exact HBX.out, rfl, rfl⟩, (Below.refl _ _).alloc (Nat.le_refl _) _⟩
end Go.Proofs.YtfggknplekiaoaaDoor
