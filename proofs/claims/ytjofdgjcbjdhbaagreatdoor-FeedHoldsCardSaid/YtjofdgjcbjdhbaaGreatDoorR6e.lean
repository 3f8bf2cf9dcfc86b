/- WALKS OF LAYER 6, FIFTH PART: the reference's May, digits, One. -/
import Derived.Test.YtjofdgjcbjdhbaaGreatDoorR6d
import Derived.Test.YtjofdgjcbjdhbaaGreatDoorCm
namespace Go.Proofs.YtjofdgjcbjdhbaaGreatDoor
open Go Go.RowKit
set_option linter.unusedVariables false
set_option maxHeartbeats 1000000
theorem byte_eqs (c : UInt8) : ((c.toNat : Int) == 61) = (c == 61) ∧ ((c.toNat : Int) == 10) = (c == 10) ∧ ((c.toNat : Int) == 0) = (c == 0) := by
  have e : ∀ d : UInt8, ((c.toNat : Int) == (d.toNat : Int)) = (c == d) := fun d => by
    by_cases h : c = d
    · subst h; simp
    · rw [beq_eq_false_iff_ne.2 h, beq_eq_false_iff_ne]
      intro he
      exact h (UInt8.toNat_inj.1 (by omega))
  exact ⟨e 61, e 10, e 0⟩
set_option maxRecDepth 100000 in
theorem refrmay_any (k v : ByteArray) (w : World) (hk : k.size ≤ 10000) :
    Calls Tryz.prog 97 #[.agg #[.string k, .string v]] w fun e w' => e = .returned (.int .i64 (Rc.mayN (k, v) : Nat)) ∧ Below w.heap.size w w' := by
  have hm : Rc.mayN (k, v) = if Rc.kOk k.data.toList then (if v.size ≤ 2000 then 0 else 10) else 3 := rfl
  have hbad : ∀ i (h : i < k.size), Rc.bad k[i] = true → Rc.mayN (k, v) = 3 := fun i h hb => by
    rw [hm]
    have := any_of k i h hb
    unfold Rc.kOk
    rw [this]; simp
  have hend : (∀ j (h : j < k.size), Rc.bad k[j] = false) → Rc.mayN (k, v) = if 1 ≤ k.size ∧ k.size ≤ 60 then (if v.size ≤ 2000 then 0 else 10) else 3 := fun h => by
    rw [hm]
    unfold Rc.kOk
    rw [any_none k h, ← Rc.size_eq]
    by_cases h1 : 1 ≤ k.size ∧ k.size ≤ 60
    · rw [if_pos h1]; simp [h1]
    · rw [if_neg h1, if_neg]; simp; omega
  generalize Rc.mayN (k, v) = m at *
  clear hm
  have HB := Lib.hid hbad; have HE := Lib.hid hend; clear hbad hend
  have UN : Below w.heap.size w (w.alloc (.cells #[.string k, .string v] 113)) := (Below.refl _ _).alloc (Nat.le_refl _) _
  go_enter Tryz.func97, Tryz.ntmps97
  go_wp2
  go_loop [3] (fun i => ∃ j : Nat, j ≤ k.size ∧ i = .int .i64 j ∧ Hid (∀ x (h : x < k.size), x < j → Rc.bad k[x] = false)) (fun i => k.size - (intOf i).toNat)
  case atStart => exact ⟨0, by omega, rfl, fun x h hx => absurd hx (Nat.not_lt_zero _)⟩
  case round =>
    obtain ⟨j, hj, rfl, HJ⟩ := hrel
    by_cases hlt : j < k.size
    · have hlt' : (j : Int) < k.size := by omega
      obtain ⟨e1, e2, e3⟩ := byte_eqs k[j]
      have HBJ := Lib.hid (HB.out j hlt)
      have HJ2 : Hid (Rc.bad k[j] = false → ∀ x (h : x < k.size), x < j + 1 → Rc.bad k[x] = false) := fun hb x h hx => by
        by_cases e : x = j
        · subst e; exact hb
        · exact HJ x h (by omega)
      have hbd : Rc.bad k[j] = ((k[j] == 61) || (k[j] == 10) || (k[j] == 0)) := rfl
      rw [hbd] at HBJ HJ2
      clear hbd
      generalize (k[j] == 61) = c1 at *
      generalize (k[j] == 10) = c2 at *
      generalize (k[j] == 0) = c3 at *
      cases c1
      · cases c2
        · cases c3
          · have HX := Lib.hid (HJ2 rfl)
            clear HJ2
            go_wp2
            go_round
            case rel => exact ⟨j + 1, by omega, by go_num, HX.out⟩
            case measure => simp [intOf]; omega
          · have hx := HBJ.out rfl
            subst hx
            go_wp2
            go_ret
            exact ⟨rfl, UN⟩
        · have hx := HBJ.out rfl
          subst hx
          go_wp2
          go_ret
          exact ⟨rfl, UN⟩
      · have hx := HBJ.out rfl
        subst hx
        go_wp2
        go_ret
        exact ⟨rfl, UN⟩
    · have hlt' : ¬ (j : Int) < k.size := by omega
      have hx := HE.out fun x h => HJ x h (by omega)
      by_cases h1 : 1 ≤ k.size ∧ k.size ≤ 60
      · rw [if_pos h1] at hx
        have p1 : ¬ (k.size : Int) < 1 := by omega
        have p2 : ¬ (60 : Int) < k.size := by omega
        by_cases hv : v.size ≤ 2000
        · have p3 : ¬ (2000 : Int) < v.size := by omega
          rw [if_pos hv] at hx
          subst hx
          go_wp2
          go_ret
          exact ⟨rfl, UN⟩
        · have p3 : (2000 : Int) < v.size := by omega
          rw [if_neg hv] at hx
          subst hx
          go_wp2
          go_ret
          exact ⟨rfl, UN⟩
      · rw [if_neg h1] at hx
        subst hx
        by_cases h2 : k.size < 1
        · have p1 : (k.size : Int) < 1 := by omega
          clear h1
          go_wp2
          go_ret
          exact ⟨rfl, UN⟩
        · have p1 : ¬ (k.size : Int) < 1 := by omega
          have p2 : (60 : Int) < k.size := by omega
          clear h1
          go_wp2
          go_ret
          exact ⟨rfl, UN⟩
theorem one_byte (n : Nat) (h : n < 10) (w : World) (e : TypeId) : RB (w.alloc (.cells #[.int .u8 (48 + n)] e)) (w.alloc (.cells #[.int .u8 (48 + n)] e)).heap.size (some ⟨w.heap.size, 0, none⟩) 1 [(48 + n : Int)] := by
  refine ⟨rfl, fun _ => ⟨w.heap.size, 0, rfl, by simp, fun j hj => ?_⟩⟩
  obtain rfl : j = 0 := by omega
  exact (BX.new w e _).cell rfl
set_option maxRecDepth 100000 in
theorem digits_any (n : Nat) : n ≤ 1000000 → ∀ w : World, Calls Tryz.prog 98 #[.int .i64 n] w fun e w' => e = .returned (.string (Rc.S (Lib.decDigits n))) ∧ Below w.heap.size w w' := by
  induction n using Nat.strongRecOn with
  | _ n ih =>
    intro hn w
    by_cases h : n < 10
    · have hr : Rc.S (Lib.decDigits n) = strOfNums [(48 + n : Int)] := by
        rw [Rc.dec_lt h]
        apply ByteArray.ext
        simp [Rc.S, strOfNums]
        apply UInt8.toNat_inj.1
        simp
        omega
      rw [hr]
      clear hr
      have h' : (n : Int) < 10 := by omega
      have hw : IntKind.i64.wrap (48 + (n : Int)) = 48 + (n : Int) := IntWalk.i64_in _ (by omega)
      have hw2 : IntKind.u8.wrap (48 + (n : Int)) = 48 + (n : Int) := by rw [IntKind.wrap_u8]; omega
      have cv := (one_byte n h w 5).conv 1
      clear ih
      go_enter Tryz.func98, Tryz.ntmps98
      go_wp2
      go_ret
      exact ⟨rfl, (Below.refl _ _).alloc (Nat.le_refl _) _⟩
    · have h' : ¬ (n : Int) < 10 := by omega
      have I1 := Lib.hid (ih (n / 10) (by omega) (by omega))
      have I2 := Lib.hid (ih (n % 10) (by omega) (by omega))
      have hr : Rc.S (Lib.decDigits n) = Rc.S (Lib.decDigits (n / 10)) ++ Rc.S (Lib.decDigits (n % 10)) := by
        rw [Rc.S_append, Rc.dec_ge h, Rc.dec_lt (Nat.mod_lt n (by omega))]
      have hz : ∀ j, j < 10000000 → (Rc.S (Lib.decDigits j)).size ≤ 1000 := fun j hj => by
        rw [Rc.size_S, Lib.decDigits_length]
        have := (Rc.nD_le (n := j) (k := 8) (by omega)).2 (by omega)
        omega
      have z1 := hz (n / 10) (by omega)
      have z2 := hz (n % 10) (by omega)
      rw [hr]
      clear hr ih hz
      have d1 : (n : Int).tdiv 10 = ((n / 10 : Nat) : Int) := rfl
      have d2 : (n : Int).tmod 10 = ((n % 10 : Nat) : Int) := rfl
      generalize Rc.S (Lib.decDigits (n / 10)) = s1 at *
      generalize Rc.S (Lib.decDigits (n % 10)) = s2 at *
      have w1 : IntKind.i64.wrap ((n / 10 : Nat) : Int) = ((n / 10 : Nat) : Int) := IntWalk.i64_in _ (by omega)
      have w2 : IntKind.i64.wrap ((n % 10 : Nat) : Int) = ((n % 10 : Nat) : Int) := IntWalk.i64_in _ (by omega)
      generalize n / 10 = q1 at *
      generalize n % 10 = q2 at *
      have hno : ¬ 9223372036854775807 < s1.size + s2.size := by omega
      go_enter Tryz.func98, Tryz.ntmps98
      go_wp2_with (first | (go_at_call 98; (with_reducible refine (I1.out _).mono ?_); rintro e w1 ⟨rfl, hb1⟩) | (go_at_call 98; (with_reducible refine (I2.out _).mono ?_); rintro e w2 ⟨rfl, hb2⟩))
      go_ret
      exact ⟨rfl, bthen hb1 hb2⟩
set_option maxRecDepth 100000 in
theorem refone6_any (k v : ByteArray) (w : World) (hk : k.size ≤ 10000) (hv : v.size ≤ 10000) :
    Calls Tryz.prog 67 #[.agg #[.string k, .string v]] w fun e w' => ∃ u, e = .returned (.tuple #[u, .int .i64 (Rc.mayN (k, v) : Nat)]) ∧ RV w' u (Rc.oneL (k, v)) ∧ Below w.heap.size w w' := by
  have M := Lib.hid (fun W => refrmay_any k v W hk)
  have UN := Lib.hid fun W (hb : Below (w.alloc (.cells #[.string k, .string v] 113)).heap.size (w.alloc (.cells #[.string k, .string v] 113)) W) => unbox hb
  have BX2 := Lib.hid fun W (hb : Below (w.alloc (.cells #[.string k, .string v] 113)).heap.size (w.alloc (.cells #[.string k, .string v] 113)) W) => box2 hb
  have hone : Rc.oneL (k, v) = if Rc.mayN (k, v) = 0 then Lib.decDigits (Rc.lenR (k, v)) ++ Rc.bodyL (k, v) else [] := rfl
  have hbc := Rc.body_cat k v
  rw [hone]
  by_cases hm : Rc.mayN (k, v) = 0
  · rw [if_pos hm]
    rw [hm] at M ⊢
    have hr : (Rc.S (Rc.bodyL (k, v))).size = Rc.restN (k, v) := by rw [Rc.size_S, Rc.bodyL_len]
    have hr2 := (Rc.rest_le hm).1
    have hll : Rc.lenR (k, v) = Rc.lenN (Rc.restN (k, v)) := by unfold Rc.lenR; rw [if_pos hm]
    have hfin : ∀ d : Nat, 1 ≤ d → d ≤ 4 → (∀ j, 1 ≤ j → j < d → j < Lib.nDigits (j + Rc.restN (k, v))) → Lib.nDigits (d + Rc.restN (k, v)) = d → (Rc.S (Lib.decDigits (d + Rc.restN (k, v))) ++ Rc.S (Rc.bodyL (k, v))).data.toList = Lib.decDigits (Rc.lenR (k, v)) ++ Rc.bodyL (k, v) := fun d h1 h4 hp he => by
      rw [hll, Rc.lenN_first h1 h4 hp (by omega), Rc.S_append]; rfl
    generalize Lib.decDigits (Rc.lenR (k, v)) ++ Rc.bodyL (k, v) = out at *
    have HF := Lib.hid hfin
    clear hone hm hfin hll
    generalize hbs : Rc.S (Rc.bodyL (k, v)) = bs at *
    generalize Rc.restN (k, v) = r at *
    have hbz : (bs.size : Int) = r := by omega
    clear hbs
    have hsz : ∀ d : Nat, d ≤ 4 → (Rc.S (Lib.decDigits (d + r))).size = Lib.nDigits (d + r) := fun d h => by rw [Rc.size_S, Lib.decDigits_length]
    have hle : ∀ d : Nat, d ≤ 4 → Lib.nDigits (d + r) ≤ 4 := fun d h => by rw [Rc.nD_le (by omega)]; omega
    have HZ := Lib.hid hsz; have HL := Lib.hid hle; have HR := Lib.hid hr; clear hsz hle hr
    go_enter Tryz.func67, Tryz.ntmps67
    go_wp2_with (go_at_call 97; (with_reducible refine (M.out _).mono ?_); rintro e w1 ⟨rfl, hb1⟩; obtain ⟨q0, q1⟩ := BX2.out _ hb1)
    go_loopw [6] (fun i wr => ∃ d : Nat, 1 ≤ d ∧ d ≤ 5 ∧ i = .int .i64 d ∧ Hid (∀ j, 1 ≤ j → j < d → j < Lib.nDigits (j + r)) ∧ Below (w.alloc (.cells #[.string k, .string v] 113)).heap.size (w.alloc (.cells #[.string k, .string v] 113)) wr) (fun i _ => 5 - (intOf i).toNat)
    case atStart => exact ⟨1, by omega, by omega, rfl, fun j h1 h2 => absurd h2 (by omega), hb1⟩
    case round =>
      obtain ⟨d, hd1, hd5, rfl, HP, hb2⟩ := hrel
      have hd4 : d ≤ 4 := by
        apply Classical.byContradiction
        intro h
        have := HP 4 (by omega) (by omega)
        have := HL.out 4 (by omega)
        omega
      have hd4' : (d : Int) ≤ 4 := by omega
      have hw : IntKind.i64.wrap ((r : Int) + d) = (r : Int) + d := IntWalk.i64_in _ (by omega)
      have dg := fun W => digits_any (d + r) (by omega) W
      have hz := HZ.out d hd4
      have hl := HL.out d hd4
      rw [show ((d + r : Nat) : Int) = (r : Int) + d by omega] at dg
      have HFD := Lib.hid (HF.out d hd1 hd4 HP)
      have HUP := Lib.hid (Rc.nD_up (r := r) (k := d) hd1 HP)
      generalize Rc.S (Lib.decDigits (d + r)) = ds at *
      generalize Lib.nDigits (d + r) = nd at *
      have DG := Lib.hid dg; clear dg
      have hdz : (ds.size : Int) = nd := by omega
      by_cases he : nd = d
      · have he' : ((nd : Int) == (d : Int)) = true := by simp [he]
        have hno : ¬ 9223372036854775807 < ds.size + bs.size := by omega
        have cvr := conv_run (ds ++ bs)
        have hsz : (ds ++ bs).size ≤ 1000000 := by rw [ByteArray.size_append]; omega
        have crv : ∀ W, RV (Lib.bytesWorld W 5 (ds ++ bs)) (.slice (some ⟨W.heap.size, 0, none⟩) (nd + bs.size) (grownCap W (nd + bs.size) 0 5)) out := fun W => by
          have := conv_rv W (ds ++ bs) hsz 5
          rw [HFD.out he, ByteArray.size_append, hz] at this
          exact this
        have CRV := Lib.hid crv
        have HE := Lib.hid he
        clear crv hsz he
        go_wp2_with (go_at_call 98; (with_reducible refine (DG.out _).mono ?_); rintro e w3 ⟨rfl, hb3⟩)
        go_ret2
        exact ⟨_, rfl, CRV.out _, UN.out _ (conv_below (bthen hb2 hb3) (by have := hb2.size; have := hb3.size; omega) _ _)⟩
      · have he' : ((nd : Int) == (d : Int)) = false := by simp; omega
        have HU := Lib.hid (HUP.out he)
        clear he
        go_wp2_with (go_at_call 98; (with_reducible refine (DG.out _).mono ?_); rintro e w3 ⟨rfl, hb3⟩)
        go_roundw
        case rel => exact ⟨d + 1, by omega, by omega, by go_num, HU.out, bthen hb2 hb3⟩
        case measure => simp [intOf]; omega
  · have hmi : ((Rc.mayN (k, v) : Int) != 0) = true := by simp; omega
    rw [if_neg hm]
    clear hone hm hbc
    generalize Rc.mayN (k, v) = m at *
    go_enter Tryz.func67, Tryz.ntmps67
    go_wp2_with (go_at_call 97; (with_reducible refine (M.out _).mono ?_); rintro e w1 ⟨rfl, hb1⟩; obtain ⟨q0, q1⟩ := BX2.out _ hb1)
    go_ret2
    exact ⟨_, rfl, RV.nil _, UN.out _ hb1⟩
end Go.Proofs.YtjofdgjcbjdhbaaGreatDoor
