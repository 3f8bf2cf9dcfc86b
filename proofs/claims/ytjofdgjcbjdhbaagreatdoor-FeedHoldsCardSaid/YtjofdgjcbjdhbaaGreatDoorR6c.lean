/- WALKS OF LAYER 6, THIRD PART: recs.May, body, Len, One. -/
import Derived.Test.YtjofdgjcbjdhbaaGreatDoorR6b
import Derived.Test.YtjofdgjcbjdhbaaGreatDoorBx
namespace Go.Proofs.YtjofdgjcbjdhbaaGreatDoor
open Go Go.RowKit
set_option linter.unusedVariables false
set_option maxHeartbeats 1000000
theorem unbox {w w' : World} {o : Obj} (h : Below (w.alloc o).heap.size (w.alloc o) w') : Below w.heap.size w w' := ((Below.refl _ w).alloc (Nat.le_refl _) _).trans (h.mono (by simp))
/-- A record's two cells in a box of its own. -/
theorem box2 {w w' : World} {k v : ByteArray} {T : TypeId} (h : Below (w.alloc (.cells #[.string k, .string v] T)).heap.size (w.alloc (.cells #[.string k, .string v] T)) w') :
    w'.cell? ⟨w.heap.size, 0, none⟩ = some (.string k) ∧ w'.cell? ⟨w.heap.size, 1, none⟩ = some (.string v) :=
  ⟨((BX.new w T _).later h).cell rfl, ((BX.new w T _).later h).cell rfl⟩
set_option maxRecDepth 100000 in
theorem rmay_any (k v : ByteArray) (w : World) :
    Calls Tryz.prog 140 #[.agg #[.string k, .string v]] w fun e w' => e = .returned (.int .i64 (Rc.mayN (k, v))) ∧ Below w.heap.size w w' := by
  have K := Lib.hid (isKey_any k)
  have hm : Rc.mayN (k, v) = if Rc.kOk k.data.toList then (if v.size ≤ 2000 then 0 else 10) else 3 := rfl
  rw [hm]
  clear hm
  generalize Rc.kOk k.data.toList = b at *
  cases b
  · go_enter Tryz.func140, Tryz.ntmps140
    go_wp2_with (go_at_call 160; (with_reducible refine (K.out _).mono ?_); rintro e w' ⟨rfl, hb⟩; obtain ⟨q0, q1⟩ := box2 hb)
    go_ret
    exact ⟨rfl, unbox hb⟩
  · by_cases hv : v.size ≤ 2000
    · have hv' : ¬ (2000 : Int) < v.size := by omega
      rw [if_pos rfl, if_pos hv]
      go_enter Tryz.func140, Tryz.ntmps140
      go_wp2_with (go_at_call 160; (with_reducible refine (K.out _).mono ?_); rintro e w' ⟨rfl, hb⟩; obtain ⟨q0, q1⟩ := box2 hb)
      go_ret
      exact ⟨rfl, unbox hb⟩
    · have hv' : (2000 : Int) < v.size := by omega
      rw [if_pos rfl, if_neg hv]
      go_enter Tryz.func140, Tryz.ntmps140
      go_wp2_with (go_at_call 160; (with_reducible refine (K.out _).mono ?_); rintro e w' ⟨rfl, hb⟩; obtain ⟨q0, q1⟩ := box2 hb)
      go_ret
      exact ⟨rfl, unbox hb⟩
set_option maxRecDepth 100000 in
theorem body_any (k v : ByteArray) (w : World) (hk : k.size ≤ 1000000) (hv : v.size ≤ 1000000) :
    Calls Tryz.prog 143 #[.agg #[.string k, .string v]] w fun e w' => e = .returned (.string (Rc.S (Rc.bodyL (k, v)))) ∧ Below w.heap.size w w' := by
  rw [← Rc.body_cat]
  go_enter Tryz.func143, Tryz.ntmps143
  go_wp2
  go_ret
  exact ⟨rfl, (Below.refl _ _).alloc (Nat.le_refl _) _⟩
set_option maxRecDepth 100000 in
theorem len6_any (k v : ByteArray) (w : World) (tb : Tab w) (hk : k.size ≤ 10000) (hv : v.size ≤ 10000) :
    Calls Tryz.prog 142 #[.agg #[.string k, .string v]] w fun e w' => e = .returned (.int .i64 (Rc.lenR (k, v) : Nat)) ∧ Below w.heap.size w w' := by
  have M := Lib.hid (rmay_any k v)
  have BO := Lib.hid fun W => body_any k v W (by omega) (by omega)
  have hbl : (Rc.S (Rc.bodyL (k, v))).size = Rc.restN (k, v) := by rw [Rc.size_S, Rc.bodyL_len]
  have hl : Rc.lenR (k, v) = if Rc.mayN (k, v) = 0 then Rc.lenN (Rc.restN (k, v)) else 0 := rfl
  have hrl : Rc.mayN (k, v) = 0 → Rc.restN (k, v) ≤ 2063 := fun h => (Rc.rest_le h).1
  rw [hl]
  clear hl
  generalize Rc.S (Rc.bodyL (k, v)) = bs at *
  generalize Rc.mayN (k, v) = m at *
  generalize hr : Rc.restN (k, v) = r at *
  clear hr
  have tb2 : ∀ W, Below (w.alloc (.cells #[.string k, .string v] 128)).heap.size (w.alloc (.cells #[.string k, .string v] 128)) W → Tab W := fun W hb => tb.on (unbox hb)
  have TB := Lib.hid tb2
  have BX2 := Lib.hid fun W (hb : Below (w.alloc (.cells #[.string k, .string v] 128)).heap.size (w.alloc (.cells #[.string k, .string v] 128)) W) => box2 hb
  have UN := Lib.hid fun W (hb : Below (w.alloc (.cells #[.string k, .string v] 128)).heap.size (w.alloc (.cells #[.string k, .string v] 128)) W) => unbox hb
  clear tb2 tb
  by_cases hm : m = 0
  · subst hm
    have hr2 := hrl rfl
    have hrs : (bs.size : Int) = r := by omega
    clear hrl
    have HBL := Lib.hid hbl; clear hbl
    rw [if_pos rfl]
    go_enter Tryz.func142, Tryz.ntmps142
    have main : ∀ (d : Nat) (W : World), 1 ≤ d → d ≤ 4 → Below (w.alloc (.cells #[.string k, .string v] 128)).heap.size (w.alloc (.cells #[.string k, .string v] 128)) W → ∃ s : ByteArray, (Calls Tryz.prog 141 #[.int .i64 ((d : Int) + r)] W fun e w' => e = .returned (.string s) ∧ Below (w.alloc (.cells #[.string k, .string v] 128)).heap.size (w.alloc (.cells #[.string k, .string v] 128)) w') ∧ s.size = Lib.nDigits (d + r) := fun d W h1 h4 hb => by
      refine ⟨_, ?_, by rw [Rc.size_S, Lib.decDigits_length]⟩
      have := itoa_any (d + r) (by omega) W (TB.out _ hb)
      rw [show ((d + r : Nat) : Int) = (d : Int) + r by omega] at this
      exact this.mono fun e w' h => ⟨h.1, bthen hb h.2⟩
    have MAIN := Lib.hid main; clear main
    go_wp2
    refine wp_scope_jumps 0 (fun a' w' => ∃ (d : Nat) (u2 u5 u6 u7 u8 u9 u10 u11 u12 u13 u14 u15 u16 u17 u18 u19 u20 u21 u22 : Value), a' = { tmps := #[.agg #[.string k, .string v], .pointer (some ⟨w.heap.size, 0, none⟩), u2, .int .i64 r, .int .i64 d, u5, u6, u7, u8, u9, u10, u11, u12, u13, u14, u15, u16, u17, u18, u19, u20, u21, u22], defers := [] } ∧ 2 ≤ d ∧ d ≤ 4 ∧ Hid (∀ j, 1 ≤ j → j < d → j < Lib.nDigits (j + r)) ∧ Below (w.alloc (.cells #[.string k, .string v] 128)).heap.size (w.alloc (.cells #[.string k, .string v] 128)) w') (fun a' _ => 5 - (intOf (a'.tmps.getD 4 undef)).toNat) rfl ?_ ?_
    · go_wp2_with (first | (go_at_call 140; (with_reducible refine (M.out _).mono ?_); rintro e w1 ⟨rfl, hb1⟩; obtain ⟨q0, q1⟩ := BX2.out _ hb1) | (go_at_call 143; (with_reducible refine (BO.out _).mono ?_); rintro e w2 ⟨rfl, hb2⟩; replace hb2 := bthen hb1 hb2))
      obtain ⟨s, its, hsz⟩ := MAIN.out 1 _ (by omega) (by omega) hb2
      rw [show ((1 : Nat) : Int) + r = 1 + (r : Int) from rfl] at its
      have hw1 : IntKind.i64.wrap (1 + (r : Int)) = 1 + (r : Int) := IntWalk.i64_in _ (by omega)
      have ITS := Lib.hid its; clear its
      go_step3
      by_cases hgt : 1 < Lib.nDigits (1 + r)
      · have hg2 : (1 : Int) < s.size := by omega
        go_wp2_with (first | (go_at_call 141; (with_reducible refine (ITS.out).mono ?_); rintro e w3 ⟨rfl, hb3⟩))
        go_step3
        try simp only [Exit.jump]
        refine ⟨rfl, 2, _, _, _, _, _, _, _, _, _, _, _, _, _, _, _, _, _, _, _, rfl, Nat.le_refl _, by omega, fun j h1 h2 => ?_, hb3⟩
        obtain rfl : j = 1 := by omega
        exact hgt
      · have hg2 : ¬ (1 : Int) < s.size := by omega
        go_wp2_with (first | (go_at_call 141; (with_reducible refine (ITS.out).mono ?_); rintro e w3 ⟨rfl, hb3⟩))
        try simp only [Exit.jump]
        go_ret
        exact ⟨ret_int (by rw [Rc.lenN_first (r := r) (d := 1) (by omega) (by omega) (fun j h1 h2 => by omega) (by omega)]; simp), UN.out _ hb3⟩
    · rintro a' w' ⟨d, u2, u5, u6, u7, u8, u9, u10, u11, u12, u13, u14, u15, u16, u17, u18, u19, u20, u21, u22, rfl, hd2, hd4, HP, hb2⟩
      obtain ⟨s, its, hsz⟩ := MAIN.out d _ (by omega) (by omega) hb2
      have ITS := Lib.hid its; clear its
      have hw : IntKind.i64.wrap ((d : Int) + r) = (d : Int) + r := IntWalk.i64_in _ (by omega)
      have hw2 : IntKind.i64.wrap ((d : Int) + 1) = (d : Int) + 1 := IntWalk.i64_in _ (by omega)
      by_cases hgt : d < Lib.nDigits (d + r)
      · have hg2 : (d : Int) < s.size := by omega
        go_wp2_with (first | (go_at_call 141; (with_reducible refine (ITS.out).mono ?_); rintro e w3 ⟨rfl, hb3⟩))
        go_step3
        try simp only [Exit.jump]
        have h5 : Lib.nDigits (d + r) ≤ 4 := by rw [Rc.nD_le (by omega)]; omega
        refine ⟨rfl, ⟨d + 1, _, _, _, _, _, _, _, _, _, _, _, _, _, _, _, _, _, _, _, rfl, by omega, by omega, fun j h1 h2 => ?_, hb3⟩, ?_⟩
        · by_cases hj : j = d
          · subst hj; exact hgt
          · exact HP j h1 (by omega)
        · simp [intOf]; omega
      · have hg2 : ¬ (d : Int) < s.size := by omega
        go_wp2_with (first | (go_at_call 141; (with_reducible refine (ITS.out).mono ?_); rintro e w3 ⟨rfl, hb3⟩))
        try simp only [Exit.jump]
        go_ret
        exact ⟨ret_int (by rw [Rc.lenN_first (r := r) (d := d) (by omega) hd4 HP (by omega)]; simp), UN.out _ hb3⟩
  · have hmi : ((m : Int) != 0) = true := by simp; omega
    rw [if_neg hm]
    clear hm hrl hbl
    go_enter Tryz.func142, Tryz.ntmps142
    go_wp2
    go_step3
    go_wp2_with (first | (go_at_call 140; (with_reducible refine (M.out _).mono ?_); rintro e w1 ⟨rfl, hb1⟩; obtain ⟨q0, q1⟩ := BX2.out _ hb1) | (go_at_call 143; (with_reducible refine (BO.out _).mono ?_); rintro e w2 ⟨rfl, hb2⟩; replace hb2 := bthen hb1 hb2))
    simp only [Exit.noGoto_ret]
    go_ret
    exact ⟨rfl, UN.out _ hb1⟩
end Go.Proofs.YtjofdgjcbjdhbaaGreatDoor
