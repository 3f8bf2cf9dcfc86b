/- WALKS OF LAYER 6, NINTH PART: recs.told. -/
import Derived.Test.YtjofdgjcbjdhbaaGreatDoorGr6
import Derived.Lib.SlBytesConst
namespace Go.Proofs.YtjofdgjcbjdhbaaGreatDoor
open Go Go.RowKit
set_option linter.unusedVariables false
set_option maxHeartbeats 1000000
theorem isdig_any (c : Int) (w : World) : Calls Tryz.prog 165 #[.int .u8 c] w fun e w' => e = .returned (.bool (decide (48 ≤ c) && decide (c ≤ 57))) ∧ w = w' := by
  by_cases h1 : 48 ≤ c
  · rw [decide_eq_true h1]
    go_enter Tryz.func165, Tryz.ntmps165
    go_wp2
    go_ret
    exact ⟨rfl, rfl⟩
  · rw [decide_eq_false h1]
    go_enter Tryz.func165, Tryz.ntmps165
    go_wp2
    go_ret
    exact ⟨rfl, rfl⟩
theorem rb_one (w : World) (B g : Nat) (x : Int) (hB : g < B) (hg : w.cell? ⟨g, 0, none⟩ = some (.int .u8 x)) : RB w B (some ⟨g, 0, none⟩) 1 [x] := by
  refine ⟨rfl, fun _ => ⟨g, 0, rfl, hB, fun j hj => ?_⟩⟩
  obtain rfl : j = 0 := by omega
  exact hg
theorem rb_pre1 {w : World} {B n : Nat} {A : Option Addr} {xs : List Int} (h : RB w B A n xs) (hn : 0 < n) : RB w B A 1 [xs.getD 0 0] := by
  refine ⟨rfl, fun _ => ?_⟩
  obtain ⟨b, o, e, hb, hc⟩ := h.2 hn
  refine ⟨b, o, e, hb, fun j hj => ?_⟩
  obtain rfl : j = 0 := by omega
  exact hc 0 hn
set_option maxRecDepth 100000 in
theorem hasp_any (A : Option Addr) (n c g : Nat) (xs : List Int) (w : World) (ha : RB w w.heap.size A n xs) (hx : Byt xs) (hc : n ≤ c) (hgl : g < w.heap.size) (hg : w.cell? ⟨g, 0, none⟩ = some (.int .u8 32)) :
    Calls Tryz.prog 166 #[.slice A n c, .slice (some ⟨g, 0, none⟩) 1 1] w fun e w' => e = .returned (.bool (decide (0 < n ∧ xs.getD 0 0 = 32))) ∧ w = w' := by
  by_cases hn : 0 < n
  · have h1 : (1 : Int) ≤ n := by omega
    have h2 : 1 ≤ c := by omega
    have h3 : ¬ c = 0 := by omega
    have k := equal_any A (some ⟨g, 0, none⟩) 1 1 c 1 [xs.getD 0 0] [32] w (rb_pre1 ha hn) (rb_one w _ g 32 hgl hg) (Byt.cons (hx 0) Byt.nil) (Byt.cons (by decide) Byt.nil)
    have e : decide ([xs.getD 0 0] = [32]) = decide (0 < n ∧ xs.getD 0 0 = 32) := by rw [decide_eq_decide]; simp [hn]
    rw [e] at k
    have K := Lib.hid k
    clear k e
    generalize decide (0 < n ∧ xs.getD 0 0 = 32) = r at *
    go_enter Tryz.func166, Tryz.ntmps166
    go_wp2_with (go_at_call 32; (with_reducible refine (K.out).mono ?_); rintro e w' ⟨rfl, rfl⟩)
    go_ret
    exact ⟨rfl, rfl⟩
  · have h1 : ¬ (1 : Int) ≤ n := by omega
    have e : decide (0 < n ∧ xs.getD 0 0 = 32) = false := by simp; omega
    rw [e]
    go_enter Tryz.func166, Tryz.ntmps166
    go_wp2
    go_ret
    exact ⟨rfl, rfl⟩
theorem val_lt : ∀ (l : Rc.Bs), (∀ c ∈ l, Rc.isD c = true) → Rc.val l < 10 ^ l.length := by
  intro l
  generalize hn : l.length = n
  induction n generalizing l with
  | zero => intro _; obtain rfl : l = [] := List.length_eq_zero_iff.1 hn; decide
  | succ n ih =>
    intro h
    have hne : l ≠ [] := by intro e; subst e; simp at hn
    obtain ⟨t, c, rfl⟩ : ∃ t c, l = t ++ [c] := ⟨l.dropLast, l.getLast hne, (List.dropLast_concat_getLast hne).symm⟩
    have h1 := ih t (by simpa using hn) (fun x hx => h x (by simp [hx]))
    have h2 := Rc.isD_iff.1 (h c (by simp))
    rw [Rc.val_snoc, Nat.pow_succ]
    omega
theorem digs_mem {b : Rc.Bs} {j : Nat} (hj : j ≤ b.length) (h : ∀ i, i < j → Rc.isD (b.getD i 0) = true) : ∀ c ∈ b.take j, Rc.isD c = true := by
  intro c hc
  obtain ⟨i, hi, rfl⟩ := List.mem_iff_getElem.1 hc
  have hi2 : i < j := by simp at hi; omega
  have := h i hi2
  simpa [List.getD, show i < b.length by omega] using this
theorem take_val {b : Rc.Bs} {j : Nat} (hj : j < b.length) : Rc.val (b.take (j + 1)) = 10 * Rc.val (b.take j) + ((b.getD j 0).toNat - 48) := by
  rw [List.take_succ_eq_append_getElem hj, Rc.val_snoc]
  simp [List.getD, hj]
theorem get_some {b : Rc.Bs} {j : Nat} {x : UInt8} : b[j]? = some x ↔ j < b.length ∧ b.getD j 0 = x := by
  constructor
  · intro h
    exact ⟨(List.getElem?_eq_some_iff.1 h).1, by simp [List.getD, h]⟩
  · rintro ⟨h, e⟩
    rw [List.getElem?_eq_getElem h, ← e]
    simp [List.getD, h]
theorem conv_blank (w : World) : (convert 25 25 (.slice (some ⟨w.heap.size, 0, none⟩) 1 1)).run Tryz.prog (w.alloc (.cells #[.int .u8 32] 5)) = .ok (.slice (some ⟨w.heap.size, 0, none⟩) 1 1) (w.alloc (.cells #[.int .u8 32] 5 (1, 2))) :=
  Lib.run_convert_bytes_const w 25 5 #[.int .u8 32] 1 1 Tryz.underlying25 Tryz.underlying5
theorem blank_cell (w : World) (e : TypeId) : (w.alloc (.cells #[.int .u8 32] e (1, 2))).cell? ⟨w.heap.size, 0, none⟩ = some (.int .u8 32) := by
  have h : (w.alloc (.cells #[.int .u8 32] e (1, 2))).heap[w.heap.size]? = some (.cells #[.int .u8 32] e (1, 2)) := by
    show (w.heap.push _)[w.heap.size]? = _
    simp
  unfold World.cell?
  rw [h]; rfl
/-- What 'told' answers. -/
def ToldOk (bs : Rc.Bs) (L d : Nat) (ok : Bool) : Prop := (ok = true → Rc.told bs = some (L, d)) ∧ (ok = false → Rc.told bs = none)
def ToldPost (bs : Rc.Bs) (w : World) (e : Ending) (w' : World) : Prop := ∃ (L d : Nat) (ok : Bool), e = .returned (.tuple #[.int .i64 L, .int .i64 d, .bool ok]) ∧ ToldOk bs L d ok ∧ Below w.heap.size w w'
set_option maxRecDepth 100000 in
theorem told_any (A : Option Addr) (n c : Nat) (bs : Rc.Bs) (w : World) (ha : RB w w.heap.size A n (Rc.ints bs)) (hc : n ≤ c) (hn : n ≤ 1000000) :
    Calls Tryz.prog 148 #[.slice A n c] w (ToldPost bs w) := by
  have cvs := conv_blank w
  have hl : bs.length = n := by have := ha.1; rwa [Rc.ints_len] at this
  obtain ⟨m, hm⟩ : ∃ m : Nat, m = min n 4 := ⟨_, rfl⟩
  have hmi : min (n : Int) 4 = (m : Int) := by omega
  have hmn : m ≤ n := by omega
  have hm4 : m ≤ 4 := by omega
  have hme : m = 4 ∨ m = bs.length := by omega
  have ID := Lib.hid isdig_any
  clear hm
  go_enter Tryz.func148, Tryz.ntmps148
  go_wp2
  go_loop [5, 6] (fun L i => ∃ j : Nat, j ≤ m ∧ L = .int .i64 (Rc.val (bs.take j)) ∧ i = .int .i64 j ∧ Hid (∀ x, x < j → Rc.isD (bs.getD x 0) = true)) (fun _ i => m - (intOf i).toNat)
  case atStart => exact ⟨0, by omega, rfl, rfl, fun x hx => absurd hx (Nat.not_lt_zero _)⟩
  case round =>
    obtain ⟨j, hj, rfl, rfl, HD⟩ := hrel
    have hv := val_lt _ (digs_mem (b := bs) (j := j) (by omega) HD)
    rw [show (bs.take j).length = j by rw [List.length_take]; omega] at hv
    have hv4 : Rc.val (bs.take j) < 10000 := Nat.lt_of_lt_of_le hv (Nat.le_trans (Nat.pow_le_pow_right (by omega) (show j ≤ 4 by omega)) (by decide))
    clear hv
    by_cases hlt : j < m ∧ Rc.isD (bs.getD j 0) = true
    · obtain ⟨hlt, hd⟩ := hlt
      have hlt' : (j : Int) < m := by omega
      obtain ⟨b, o, rfl, hbl, hcell⟩ := ha.at_ (show j < n by omega)
      rw [Rc.ints_getD] at hcell
      have HV := Lib.hid (take_val (b := bs) (j := j) (by omega))
      have HX := Lib.hid (show ∀ x, x < j + 1 → Rc.isD (bs.getD x 0) = true from fun x hx => by
        by_cases e : x = j
        · subst e; exact hd
        · exact HD x (by omega))
      obtain ⟨h48, h57⟩ := Rc.isD_iff.1 hd
      clear hd
      generalize bs.getD j 0 = x at *
      generalize hxn : x.toNat = q at *
      clear hxn
      generalize Rc.val (bs.take j) = L at *
      have d1 : (decide ((48 : Int) ≤ q) && decide ((q : Int) ≤ 57)) = true := by simp; omega
      have w1 : IntKind.u8.wrap ((q : Int) - 48) = (q : Int) - 48 := by rw [IntKind.wrap_u8]; omega
      have w2 : IntKind.i64.wrap (10 * (L : Int)) = 10 * (L : Int) := IntWalk.i64_in _ (by omega)
      have w3 : IntKind.i64.wrap (10 * (L : Int) + ((q : Int) - 48)) = 10 * (L : Int) + ((q : Int) - 48) := IntWalk.i64_in _ (by omega)
      go_wp2_with (go_at_call 165; (with_reducible refine (ID.out _ _).mono ?_); rintro e w' ⟨rfl, rfl⟩; rw [d1])
      go_round
      case rel => exact ⟨j + 1, by omega, by rw [HV.out]; congr 1; omega, by go_num, HX.out⟩
      case measure => simp [intOf]; omega
    · -- the ends
      have he : 4 ≤ j ∨ j = bs.length ∨ Rc.isD (bs.getD j 0) = false := by
        by_cases h : j < m
        · right; right
          cases hh : Rc.isD (bs.getD j 0)
          · rfl
          · exact absurd ⟨h, hh⟩ hlt
        · omega
      have TN := Lib.hid (Rc.told_none HD (by omega) he)
      have TS := Lib.hid (fun (a : 1 ≤ j) => Rc.told_some HD a (by omega))
      have hw : Below w.heap.size w (w.alloc (.cells #[.int .u8 32] 5 (1, 2))) := (Below.refl _ _).alloc (Nat.le_refl _) _
      by_cases hjm : j < m
      · have hlt' : (j : Int) < m := by omega
        have hnd : Rc.isD (bs.getD j 0) = false := by
          cases hh : Rc.isD (bs.getD j 0)
          · rfl
          · exact absurd ⟨hjm, hh⟩ hlt
        have d1 : (decide ((48 : Int) ≤ (bs.getD j 0).toNat) && decide (((bs.getD j 0).toNat : Int) ≤ 57)) = false := by
          unfold Rc.isD at hnd
          rw [← hnd]
          congr 1 <;> rw [decide_eq_decide] <;> omega
        obtain ⟨b', o', hA, _, hcell⟩ := ha.at_ (show j < n by omega)
        rw [Rc.ints_getD] at hcell
        clear hnd
        generalize (bs.getD j 0).toNat = q at *
        subst hA
        by_cases h0 : j = 0
        · subst h0
          try rw [Nat.add_zero] at hcell
          have T := Lib.hid (TN.out (.inl rfl))
          clear he hlt
          go_wp2_with (first | (go_at_call 165; (with_reducible refine (ID.out _ _).mono ?_); rintro e w' ⟨rfl, rfl⟩; rw [d1]))
          go_ret3
          refine ⟨Rc.val [], 0, false, rfl, ?_, Below.refl _ _⟩
          exact ⟨fun h => (by cases h), fun _ => T.out⟩
        · obtain ⟨b, o, hA2, hbl, hc0⟩ := ha.at0 (show 0 < n by omega)
          first | subst hA2 | cases hA2
          rw [Rc.ints_getD] at hc0
          have hj0 : (0 : Int) < j := by omega
          by_cases h48 : bs.getD 0 0 = 48
          · have T := Lib.hid (TN.out (.inr (.inr (.inl h48))))
            rw [h48] at hc0
            clear he hlt h48
            go_wp2_with (first | (go_at_call 165; (with_reducible refine (ID.out _ _).mono ?_); rintro e w' ⟨rfl, rfl⟩; rw [d1]))
            go_ret3
            refine ⟨Rc.val (bs.take j), j, false, rfl, ?_, Below.refl _ _⟩
            exact ⟨fun h => (by cases h), fun _ => T.out⟩
          · have T1 := Lib.hid (TN.out)
            have T2 := Lib.hid (TS.out (by omega) h48)
            have g48 : (((bs.getD 0 0).toNat : Int) != 48) = true := by
              simp only [bne_iff_ne, ne_eq]
              intro e
              exact h48 (UInt8.toNat_inj.1 (by show (bs.getD 0 0).toNat = 48; omega))
            have hrb := (ha.alloc (Nat.le_refl _) (.cells #[.int .u8 32] 5 (1, 2))).cutAt (k := j) (by omega) hc (by omega)
            have KP := hasp_any _ _ (c - j) w.heap.size _ (w.alloc (.cells #[.int .u8 32] 5 (1, 2))) (hrb.more (by simp)) ((Rc.ints_byt bs).drop j) (by omega) (by simp) (blank_cell w _)
            have hr : decide (0 < n - j ∧ ((Rc.ints bs).drop j).getD 0 0 = 32) = decide (bs[j]? = some 32) := by
              rw [decide_eq_decide, get_some, ← Rc.ints_drop, Rc.ints_getD]
              have e : (bs.drop j).getD 0 0 = bs.getD j 0 := by simp [List.getD]
              rw [e]
              constructor
              · rintro ⟨a, b⟩; exact ⟨by omega, UInt8.toNat_inj.1 (by show _ = 32; omega)⟩
              · rintro ⟨a, b⟩; exact ⟨by omega, by rw [b]; rfl⟩
            rw [hr] at KP
            clear hr hrb
            have TE : ToldOk bs (Rc.val (bs.take j)) j (decide (bs[j]? = some 32)) := ⟨fun h => T2.out (of_decide_eq_true h), fun h => T1.out (.inr (.inr (.inr (of_decide_eq_false h))))⟩
            have TE := Lib.hid TE
            clear TN TS T1 T2 he hlt h48
            generalize decide (bs[j]? = some 32) = ok at *
            generalize (bs.getD 0 0).toNat = z at *
            generalize Rc.val (bs.take j) = L at *
            by_cases hcj : c = j
            · rw [if_pos hcj] at KP
              have e1 : n - j = 0 := by omega
              have e2 : c - j = 0 := by omega
              rw [e1, e2] at KP
              have hnj : n = j := by omega
              have KP := Lib.hid KP
              subst hcj
              clear e1 e2
              go_wp2_with (first | (go_at_call 165; (with_reducible refine (ID.out _ _).mono ?_); rintro e w' ⟨rfl, rfl⟩; rw [d1]) | (go_at_call 166; (with_reducible refine (KP.out).mono ?_); rintro e w' ⟨rfl, rfl⟩))
              all_goals
                go_ret3
                exact ⟨L, _, ok, rfl, TE.out, hw⟩
            · rw [if_neg hcj] at KP
              have KP := Lib.hid KP
              have hjc : j ≤ c := by omega
              go_wp2_with (first | (go_at_call 165; (with_reducible refine (ID.out _ _).mono ?_); rintro e w' ⟨rfl, rfl⟩; rw [d1]) | (go_at_call 166; (with_reducible refine (KP.out).mono ?_); rintro e w' ⟨rfl, rfl⟩))
              go_ret3
              exact ⟨L, _, ok, rfl, TE.out, hw⟩
      · have hlt' : ¬ (j : Int) < m := by omega
        by_cases h0 : j = 0
        · subst h0
          try rw [Nat.add_zero] at hcell
          have T := Lib.hid (TN.out (.inl rfl))
          clear he hlt
          go_wp2_with (first | fail)
          go_ret3
          refine ⟨Rc.val [], 0, false, rfl, ?_, Below.refl _ _⟩
          exact ⟨fun h => (by cases h), fun _ => T.out⟩
        · obtain ⟨b, o, hA2, hbl, hc0⟩ := ha.at0 (show 0 < n by omega)
          first | subst hA2 | cases hA2
          rw [Rc.ints_getD] at hc0
          have hj0 : (0 : Int) < j := by omega
          by_cases h48 : bs.getD 0 0 = 48
          · have T := Lib.hid (TN.out (.inr (.inr (.inl h48))))
            rw [h48] at hc0
            clear he hlt h48
            go_wp2_with (first | fail)
            go_ret3
            refine ⟨Rc.val (bs.take j), j, false, rfl, ?_, Below.refl _ _⟩
            exact ⟨fun h => (by cases h), fun _ => T.out⟩
          · have T1 := Lib.hid (TN.out)
            have T2 := Lib.hid (TS.out (by omega) h48)
            have g48 : (((bs.getD 0 0).toNat : Int) != 48) = true := by
              simp only [bne_iff_ne, ne_eq]
              intro e
              exact h48 (UInt8.toNat_inj.1 (by show (bs.getD 0 0).toNat = 48; omega))
            have hrb := (ha.alloc (Nat.le_refl _) (.cells #[.int .u8 32] 5 (1, 2))).cutAt (k := j) (by omega) hc (by omega)
            have KP := hasp_any _ _ (c - j) w.heap.size _ (w.alloc (.cells #[.int .u8 32] 5 (1, 2))) (hrb.more (by simp)) ((Rc.ints_byt bs).drop j) (by omega) (by simp) (blank_cell w _)
            have hr : decide (0 < n - j ∧ ((Rc.ints bs).drop j).getD 0 0 = 32) = decide (bs[j]? = some 32) := by
              rw [decide_eq_decide, get_some, ← Rc.ints_drop, Rc.ints_getD]
              have e : (bs.drop j).getD 0 0 = bs.getD j 0 := by simp [List.getD]
              rw [e]
              constructor
              · rintro ⟨a, b⟩; exact ⟨by omega, UInt8.toNat_inj.1 (by show _ = 32; omega)⟩
              · rintro ⟨a, b⟩; exact ⟨by omega, by rw [b]; rfl⟩
            rw [hr] at KP
            clear hr hrb
            have TE : ToldOk bs (Rc.val (bs.take j)) j (decide (bs[j]? = some 32)) := ⟨fun h => T2.out (of_decide_eq_true h), fun h => T1.out (.inr (.inr (.inr (of_decide_eq_false h))))⟩
            have TE := Lib.hid TE
            clear TN TS T1 T2 he hlt h48
            generalize decide (bs[j]? = some 32) = ok at *
            generalize (bs.getD 0 0).toNat = z at *
            generalize Rc.val (bs.take j) = L at *
            by_cases hcj : c = j
            · rw [if_pos hcj] at KP
              have e1 : n - j = 0 := by omega
              have e2 : c - j = 0 := by omega
              rw [e1, e2] at KP
              have hnj : n = j := by omega
              have KP := Lib.hid KP
              subst hcj
              clear e1 e2
              go_wp2_with (first | fail | (go_at_call 166; (with_reducible refine (KP.out).mono ?_); rintro e w' ⟨rfl, rfl⟩))
              all_goals
                go_ret3
                exact ⟨L, _, ok, rfl, TE.out, hw⟩
            · rw [if_neg hcj] at KP
              have KP := Lib.hid KP
              have hjc : j ≤ c := by omega
              go_wp2_with (first | fail | (go_at_call 166; (with_reducible refine (KP.out).mono ?_); rintro e w' ⟨rfl, rfl⟩))
              go_ret3
              exact ⟨L, _, ok, rfl, TE.out, hw⟩
end Go.Proofs.YtjofdgjcbjdhbaaGreatDoor
/- WALKS OF LAYER 6, TENTH PART: Cut and CutSuffix at a record's signs; recs.first. -/
namespace Go.Proofs.YtjofdgjcbjdhbaaGreatDoor
open Go Go.RowKit
set_option linter.unusedVariables false
set_option maxHeartbeats 1000000
theorem ix_find (l : Rc.Bs) (c : UInt8) : Lib.indexByte l c = if l.findIdx (· == c) < l.length then (l.findIdx (· == c) : Int) else -1 := by
  by_cases h : l.findIdx (· == c) < l.length
  · rw [if_pos h]
    have hat : l[l.findIdx (· == c)] = c := by
      have := List.findIdx_getElem (p := (· == c)) (xs := l) (w := h)
      simpa using this
    have hbe : ∀ k, k < l.findIdx (· == c) → l[k]? ≠ some c := fun k hk he => by
      have hkl : k < l.length := by omega
      have := List.not_of_lt_findIdx hk
      rw [List.getElem?_eq_getElem hkl] at he
      have he2 := Option.some.inj he
      rw [he2] at this
      simp at this
    have hge := Lib.indexByte_ge l c
    by_cases hn : Lib.indexByte l c = -1
    · have := Lib.indexByte_none hn (l.findIdx (· == c))
      rw [List.getElem?_eq_getElem h, hat] at this
      exact absurd rfl this
    · obtain ⟨o, ho⟩ : ∃ o : Nat, Lib.indexByte l c = o := ⟨(Lib.indexByte l c).toNat, by omega⟩
      obtain ⟨h1, h2⟩ := Lib.indexByte_some ho
      rw [ho]
      have : o = l.findIdx (· == c) := by
        apply Nat.le_antisymm
        · apply Nat.le_of_not_lt
          intro hlt
          have := h2 _ hlt
          rw [List.getElem?_eq_getElem h, hat] at this
          exact this rfl
        · apply Nat.le_of_not_lt
          intro hlt
          exact hbe o hlt h1
      omega
  · rw [if_neg h]
    apply index_none
    intro x hx e
    subst e
    apply h
    rw [List.findIdx_lt_length]
    exact ⟨x, hx, by simp⟩
def cutV6 (s : ByteArray) : Value := match Rc.cutS s.data.toList with
  | some r => .tuple #[.string r.1, .string r.2, .bool true]
  | none => .tuple #[.string s, .string ⟨#[]⟩, .bool false]
theorem cutV6_hit {s : ByteArray} {i : Nat} (hi : s.data.toList.findIdx (· == 61) = i) (h : i < s.size) : cutV6 s = .tuple #[.string (s.extract 0 i), .string (s.extract (i + 1) s.size), .bool true] := by
  unfold cutV6 Rc.cutS
  rw [hi, if_pos (show i < s.data.toList.length from h)]
  have e1 : Rc.S (s.data.toList.take i) = s.extract 0 i := by
    apply ByteArray.ext; apply Array.toList_inj.1
    rw [Lib.extract_data]; simp [Rc.S]
  have e2 : Rc.S (s.data.toList.drop (i + 1)) = s.extract (i + 1) s.size := by
    apply ByteArray.ext; apply Array.toList_inj.1
    rw [Lib.extract_data]
    have e : (s.data.toList.drop (i + 1)).take (s.size - (i + 1)) = s.data.toList.drop (i + 1) := List.take_of_length_le (by rw [List.length_drop]; exact Nat.le_refl _)
    rw [e]; rfl
  simp only [e1, e2]
theorem cutV6_miss {s : ByteArray} (h : ¬ s.data.toList.findIdx (· == 61) < s.size) : cutV6 s = .tuple #[.string s, .string ⟨#[]⟩, .bool false] := by
  unfold cutV6 Rc.cutS
  rw [if_neg (show ¬ s.data.toList.findIdx (· == 61) < s.data.toList.length from h)]
theorem litecut6_any (s : ByteArray) (w : World) (hs : s.size ≤ 1000000) :
    Calls Tryz.prog 168 #[.string s, .string ⟨#[61]⟩] w fun e w' => e = .returned (cutV6 s) ∧ ∃ n, w' = w.drewN n := by
  have k : Calls Tryz.prog 179 #[.string s, .string ⟨#[61]⟩] w fun e w' => e = .returned (.int .i64 (Lib.indexByte s.data.toList 61)) ∧ w' = w := Tryz.stringslite_Index_one s 61 w
  rw [ix_find] at k
  by_cases h : s.data.toList.findIdx (· == 61) < s.size
  · rw [if_pos (show _ < s.data.toList.length from h)] at k
    have hv := cutV6_hit rfl h
    generalize s.data.toList.findIdx (· == 61) = r at *
    generalize cutV6 s = v at *
    have k := Lib.hid k; have hv := Lib.hid hv
    have s1 : IntKind.i64.wrap ((r : Int) + 1) = (r : Int) + 1 := IntWalk.i64_in _ (by omega)
    have s2 : ((r : Int) + 1).toNat = r + 1 := by omega
    have s3 : (0 : Int) ≤ (r : Int) + 1 := by omega
    have s4 : r + 1 ≤ s.size := by omega
    go_enter Tryz.func168, Tryz.ntmps168
    go_wp2_with (go_at_call 179; refine k.out.mono ?_; rintro e w' ⟨rfl, rfl⟩)
    go_quiet (fail)
    go_wp2
    go_ret3
    exact ⟨by rw [hv.out]; rfl, _, rfl⟩
  · rw [if_neg (show ¬ _ < s.data.toList.length from h)] at k
    have hv := Lib.hid (cutV6_miss h)
    generalize cutV6 s = v at *
    have k := Lib.hid k
    go_enter Tryz.func168, Tryz.ntmps168
    go_wp2_with (go_at_call 179; refine k.out.mono ?_; rintro e w' ⟨rfl, rfl⟩)
    go_ret3
    exact ⟨by rw [hv.out]; rfl, 0, rfl⟩
theorem cut6_any (s : ByteArray) (w : World) (hs : s.size ≤ 1000000) :
    Calls Tryz.prog 150 #[.string s, .string ⟨#[61]⟩] w fun e w' => e = .returned (cutV6 s) ∧ ∃ n, w' = w.drewN n := by
  have k := litecut6_any s w hs
  obtain ⟨x, y, z, hx⟩ : ∃ x y z, cutV6 s = .tuple #[.string x, .string y, .bool z] := by
    unfold cutV6
    split
    · exact ⟨_, _, _, rfl⟩
    · exact ⟨_, _, _, rfl⟩
  rw [hx] at k ⊢
  have K := Lib.hid k; clear k hx
  go_enter Tryz.func150, Tryz.ntmps150
  go_wp2_with (go_at_call 168; (with_reducible refine K.out.mono ?_); rintro e w' ⟨rfl, n, rfl⟩)
  go_ret3
  exact ⟨rfl, _, rfl⟩
theorem cut6_below (s : ByteArray) (w : World) (hs : s.size ≤ 1000000) :
    Calls Tryz.prog 150 #[.string s, .string ⟨#[61]⟩] w fun e w' => e = .returned (cutV6 s) ∧ Below w.heap.size w w' :=
  (cut6_any s w hs).mono fun _ _ ⟨h, n, hn⟩ => ⟨h, by rw [hn]; exact below_drewN (Below.refl _ _) n⟩
theorem suf_snoc (m : Rc.Bs) (x : UInt8) : Lib.hasSuffix (m ++ [x]) [10] = (x == 10) ∧ Lib.trimSuffix (m ++ [x]) [10] = if x = 10 then m else m ++ [x] := by
  have h : Lib.hasSuffix (m ++ [x]) [10] = (x == 10) := by
    unfold Lib.hasSuffix
    by_cases hx : x = 10
    · subst hx
      rw [beq_self_eq_true, List.isSuffixOf_iff_suffix]
      exact ⟨m, rfl⟩
    · rw [beq_eq_false_iff_ne.2 hx, Bool.eq_false_iff, Ne, List.isSuffixOf_iff_suffix]
      rintro ⟨t, ht⟩
      have := congrArg List.getLast? ht
      simp at this
      exact hx this.symm
  refine ⟨h, ?_⟩
  unfold Lib.trimSuffix
  rw [h]
  by_cases hx : x = 10
  · subst hx; simp
  · rw [if_neg hx, if_neg (by simpa using hx)]
theorem suffix6_any (m : Rc.Bs) (x : UInt8) (w : World) (hm : m.length ≤ 1000000) :
    Calls Tryz.prog 149 #[.string (Rc.S (m ++ [x])), .string ⟨#[10]⟩] w fun e w' => e = .returned (.tuple #[.string (Rc.S (if x = 10 then m else m ++ [x])), .bool (x == 10)]) ∧ w = w' := by
  have := Tryz.strings_CutSuffix (Rc.S (m ++ [x])) ⟨#[10]⟩ w (by rw [Rc.size_S, List.length_append]; simp; omega)
  rw [Rc.data_S, show (⟨#[10]⟩ : ByteArray).data.toList = [10] from rfl, (suf_snoc m x).1, (suf_snoc m x).2] at this
  exact this.mono fun e w' h => ⟨h.1, h.2.symm⟩
end Go.Proofs.YtjofdgjcbjdhbaaGreatDoor
/- WALKS OF LAYER 6, ELEVENTH PART: recs.first. -/
namespace Go.Proofs.YtjofdgjcbjdhbaaGreatDoor
open Go Go.RowKit
set_option linter.unusedVariables false
set_option maxHeartbeats 2000000
theorem rb_front {w : World} {B n : Nat} {A : Option Addr} {xs : List Int} (h : RB w B A n xs) {k : Nat} (hk : k ≤ n) : RB w B A k (xs.take k) := by
  refine ⟨by rw [List.length_take, h.1]; omega, fun h0 => ?_⟩
  obtain ⟨b, o, e, hb, hc⟩ := h.2 (by omega)
  refine ⟨b, o, e, hb, fun j hj => ?_⟩
  have e : (xs.take k).getD j 0 = xs.getD j 0 := by simp [List.getD, hj]
  rw [hc j (by omega), e]
/-- What 'first' answers. -/
def firstV (r : Rc.Rec × Nat × Nat) : Value := .tuple #[.agg #[.string r.1.1, .string r.1.2], .int .i64 r.2.1, .int .i64 r.2.2]
theorem first_none {bs : Rc.Bs} (h : Rc.told bs = none) : Rc.firstL bs = (Rc.noRec, 0, 3) := by unfold Rc.firstL; rw [h]
theorem first_some {bs : Rc.Bs} {L d : Nat} (h : Rc.told bs = some (L, d)) : Rc.firstL bs = Rc.firstB bs L d := by unfold Rc.firstL; rw [h]
theorem firstB_long {bs : Rc.Bs} {L d : Nat} (h : bs.length < L) : Rc.firstB bs L d = (Rc.noRec, 0, 4) := by unfold Rc.firstB; rw [if_pos h]
theorem firstB_short {bs : Rc.Bs} {L d : Nat} (h : ¬ bs.length < L) (h2 : L < d + 2) : Rc.firstB bs L d = (Rc.noRec, 0, 3) := by unfold Rc.firstB; rw [if_neg h, if_pos h2]
theorem firstB_end {bs : Rc.Bs} {L d : Nat} (h : ¬ bs.length < L) (h2 : ¬ L < d + 2) (h3 : bs.getD (L - 1) 0 ≠ 10) : Rc.firstB bs L d = (Rc.noRec, 0, 3) := by unfold Rc.firstB; rw [if_neg h, if_neg h2, if_pos h3]
theorem firstB_cut {bs : Rc.Bs} {L d : Nat} (h : ¬ bs.length < L) (h2 : ¬ L < d + 2) (h3 : bs.getD (L - 1) 0 = 10) (h4 : Rc.cutS ((bs.take (L - 1)).drop (d + 1)) = none) : Rc.firstB bs L d = (Rc.noRec, 0, 3) := by
  unfold Rc.firstB; rw [if_neg h, if_neg h2, if_neg (by simpa using h3), h4]
theorem firstB_rec {bs : Rc.Bs} {L d : Nat} {r : Rc.Rec} (h : ¬ bs.length < L) (h2 : ¬ L < d + 2) (h3 : bs.getD (L - 1) 0 = 10) (h4 : Rc.cutS ((bs.take (L - 1)).drop (d + 1)) = some r) : Rc.firstB bs L d = if Rc.lenR r = L then (r, L, 0) else (Rc.noRec, 0, 3) := by
  unfold Rc.firstB; rw [if_neg h, if_neg h2, if_neg (by simpa using h3), h4]
theorem mid_snoc {bs : Rc.Bs} {L d : Nat} (h : L ≤ bs.length) (h2 : d + 2 ≤ L) : (bs.drop (d + 1)).take (L - (d + 1)) = (bs.take (L - 1)).drop (d + 1) ++ [bs.getD (L - 1) 0] := by
  apply List.ext_getElem
  · simp; omega
  · intro i h1 h3
    have hi : i < L - (d + 1) := by simp at h1; omega
    rw [List.getElem_take, List.getElem_drop]
    by_cases e : i < L - 1 - (d + 1)
    · rw [List.getElem_append_left (by simp; omega), List.getElem_drop, List.getElem_take]
    · have e2 : i = L - 1 - (d + 1) := by omega
      rw [List.getElem_append_right (by simp; omega)]
      have e3 : d + 1 + i = L - 1 := by omega
      simp [e3, List.getD, show L - 1 < bs.length by omega]
theorem cut_sizes {s : Rc.Bs} {r : Rc.Rec} (h : Rc.cutS s = some r) : r.1.size ≤ s.length ∧ r.2.size ≤ s.length := by
  unfold Rc.cutS at h
  split at h
  · cases h
    rw [Rc.size_S, Rc.size_S, List.length_take, List.length_drop]
    omega
  · cases h
/-- The box of a named result, before it is stored to. -/
theorem box0 {w w' : World} {T : TypeId} (h : Below (w.alloc (.cells #[.string ⟨#[]⟩, .string ⟨#[]⟩] T)).heap.size (w.alloc (.cells #[.string ⟨#[]⟩, .string ⟨#[]⟩] T)) w') :
    w'.cell? ⟨w.heap.size, 0, none⟩ = some (.string ⟨#[]⟩) ∧ w'.cell? ⟨w.heap.size, 1, none⟩ = some (.string ⟨#[]⟩) ∧ w'.frozen? ⟨w.heap.size, 0, none⟩ = false ∧ w'.frozen? ⟨w.heap.size, 1, none⟩ = false :=
  ⟨((BX.new w T _).later h).cell rfl, ((BX.new w T _).later h).cell rfl, ((BX.new w T _).later h).free 0, ((BX.new w T _).later h).free 1⟩
set_option maxRecDepth 100000 in
theorem first_any (A : Option Addr) (n c : Nat) (bs : Rc.Bs) (w : World) (tb : Tab w) (ha : RB w w.heap.size A n (Rc.ints bs)) (hc : n ≤ c) (hn : n ≤ 1000000) :
    Calls Tryz.prog 123 #[.slice A n c] w fun e w' => e = .returned (firstV (Rc.firstL bs)) ∧ Below w.heap.size w w' := by
  have hl : bs.length = n := by have := ha.1; rwa [Rc.ints_len] at this
  have B0 := Lib.hid fun W (hb : Below (w.alloc (.cells #[.string ⟨#[]⟩, .string ⟨#[]⟩] 128)).heap.size (w.alloc (.cells #[.string ⟨#[]⟩, .string ⟨#[]⟩] 128)) W) => box0 hb
  have UN := Lib.hid fun W (hb : Below (w.alloc (.cells #[.string ⟨#[]⟩, .string ⟨#[]⟩] 128)).heap.size (w.alloc (.cells #[.string ⟨#[]⟩, .string ⟨#[]⟩] 128)) W) => unbox hb
  have TO := told_any A n c bs (w.alloc (.cells #[.string ⟨#[]⟩, .string ⟨#[]⟩] 128)) ((ha.alloc (Nat.le_refl _) _).more (by simp)) hc (by omega)
  unfold ToldPost at TO
  have TO := Lib.hid TO
  go_enter Tryz.func123, Tryz.ntmps123
  go_upto_block 0 with (go_at_call 148; (with_reducible refine (TO.out).mono ?_); rintro e w1 ⟨L, d, ok, rfl, hok, hb1⟩; obtain ⟨c0, c1, f0, f1⟩ := B0.out _ hb1)
  have tb1 := tb.on (UN.out _ hb1)
  have hbw := UN.out _ hb1
  have HOK := Lib.hid hok; clear hok TO
  have tb0 := Lib.hid tb; clear tb
  cases ok
  · have E := Lib.hid (first_none (HOK.out.2 rfl))
    clear HOK
    go_wp2
    refine bodyPost_ret (v := .tuple #[.agg #[.string ⟨#[]⟩, .string ⟨#[]⟩], .int .i64 0, .int .i64 3]) (by simp [results, Tryz.f123, go_sem, *]) rfl ?_
    rw [E.out]
    exact ⟨rfl, (hbw.setCell (Nat.le_refl _) _).setCell (Nat.le_refl _) _⟩
  · have ht := HOK.out.1 rfl
    have E := Lib.hid (first_some ht)
    obtain ⟨hd1, hd2, hd3, hd4, hd5, hd6⟩ := Rc.told_inv ht
    have hL : L < 10000 := by
      rw [hd6]
      have := val_lt _ (digs_mem (b := bs) (j := d) (by have := (get_some.1 hd5).1; omega) (fun i hi => Rc.lead_lt (by omega)))
      rw [show (bs.take d).length = d by rw [List.length_take]; have := (get_some.1 hd5).1; omega] at this
      exact Nat.lt_of_lt_of_le this (Nat.le_trans (Nat.pow_le_pow_right (by omega) hd3) (by decide))
    clear ht HOK hd1 hd4 hd5 hd6
    have w2 : IntKind.i64.wrap ((d : Int) + 2) = (d : Int) + 2 := IntWalk.i64_in _ (by omega)
    have w1' : IntKind.i64.wrap ((d : Int) + 1) = (d : Int) + 1 := IntWalk.i64_in _ (by omega)
    by_cases h1 : n < L
    · have h1' : (n : Int) < L := by omega
      have E2 := Lib.hid (firstB_long (bs := bs) (L := L) (d := d) (by omega))
      go_wp2
      refine bodyPost_ret (v := .tuple #[.agg #[.string ⟨#[]⟩, .string ⟨#[]⟩], .int .i64 0, .int .i64 4]) (by simp [results, Tryz.f123, go_sem, *]) rfl ?_
      rw [E.out, E2.out]
      exact ⟨rfl, (hbw.setCell (Nat.le_refl _) _).setCell (Nat.le_refl _) _⟩
    · have h1' : ¬ (n : Int) < L := by omega
      by_cases h2 : L < d + 2
      · have h2' : (L : Int) < (d : Int) + 2 := by omega
        have E2 := Lib.hid (firstB_short (bs := bs) (L := L) (d := d) (by omega) h2)
        go_wp2
        refine bodyPost_ret (v := .tuple #[.agg #[.string ⟨#[]⟩, .string ⟨#[]⟩], .int .i64 0, .int .i64 3]) (by simp [results, Tryz.f123, go_sem, *]) rfl ?_
        rw [E.out, E2.out]
        exact ⟨rfl, (hbw.setCell (Nat.le_refl _) _).setCell (Nat.le_refl _) _⟩
      · have h2' : ¬ (L : Int) < (d : Int) + 2 := by omega
        obtain ⟨b, o, rfl, hbl, _⟩ := ha.at0 (show 0 < n by omega)
        have g1 : ¬ c = d + 1 := by omega
        have g2 : d + 1 ≤ L := by omega
        have g3 : L ≤ c := by omega
        have g4 : ((d : Int) + 1).toNat = d + 1 := by omega
        have g5 : (0 : Int) ≤ (d : Int) + 1 := by omega
        have g6 : (d : Int) + 1 ≤ (L : Int) := by omega
        have hrb := rb_front ((ha.below hbw).cutAt (k := d + 1) (by omega) hc (by omega)) (k := L - (d + 1)) (by omega)
        rw [if_neg g1, ← Rc.ints_drop, ← Rc.ints_take, mid_snoc (by omega) (by omega)] at hrb
        have cv := hrb.conv (c - (d + 1))
        rw [Rc.strOf_ints] at cv
        have hml : ((bs.take (L - 1)).drop (d + 1)).length ≤ 10000 := by simp; omega
        have E3 := Lib.hid (fun h3 => firstB_end (bs := bs) (L := L) (d := d) (by omega) h2 h3)
        have E4 := Lib.hid (fun h3 h4 => firstB_cut (bs := bs) (L := L) (d := d) (by omega) h2 h3 h4)
        have E5 := Lib.hid (fun r h3 h4 => firstB_rec (bs := bs) (L := L) (d := d) (r := r) (by omega) h2 h3 h4)
        have SF := Lib.hid (suffix6_any ((bs.take (L - 1)).drop (d + 1)) (bs.getD (L - 1) 0))
        generalize (bs.take (L - 1)).drop (d + 1) = mid at *
        generalize bs.getD (L - 1) 0 = x at *
        generalize Rc.firstB bs L d = out at *
        clear hrb h2 hl hd2 hd3
        by_cases hx : x = 10
        · subst hx
          rw [if_pos rfl, show ((10 : UInt8) == 10) = true from rfl] at SF
          have CU := fun W => cut6_below (Rc.S mid) W (by rw [Rc.size_S]; omega)
          cases hcs : Rc.cutS mid with
          | none =>
            have hcu : cutV6 (Rc.S mid) = .tuple #[.string (Rc.S mid), .string ⟨#[]⟩, .bool false] := by unfold cutV6; rw [Rc.data_S, hcs]
            rw [hcu] at CU
            have E6 := Lib.hid (E4.out rfl hcs)
            clear hcs hcu E3 E4 E5
            have SF := Lib.hid SF.out; have CU := Lib.hid CU
            generalize Rc.S (mid ++ [10]) = tx at *
            generalize Rc.S mid = ty at *
            go_wp2_with (first | (go_at_call 149; (with_reducible refine (SF.out _ (by omega)).mono ?_); rintro e w3 ⟨rfl, rfl⟩) | (go_at_call 150; (with_reducible refine (CU.out _).mono ?_); rintro e w4 ⟨rfl, hb4⟩; replace hb4 := bthen hb1 hb4; obtain ⟨c0, c1, f0, f1⟩ := B0.out _ (hb4.alloc hb4.size (.cells #[.string ty, .string ⟨#[]⟩] 128))))
            refine bodyPost_ret (v := .tuple #[.agg #[.string ⟨#[]⟩, .string ⟨#[]⟩], .int .i64 0, .int .i64 3]) (by simp [results, Tryz.f123, go_sem, *]) rfl ?_
            rw [E.out, E6.out]
            exact ⟨rfl, ((((UN.out _ hb4).alloc (UN.out _ hb4).size _).setCell (Nat.le_refl _) _).setCell (Nat.le_refl _) _)⟩
          | some r =>
            obtain ⟨rk, rv⟩ := r
            have hcu : cutV6 (Rc.S mid) = .tuple #[.string rk, .string rv, .bool true] := by unfold cutV6; rw [Rc.data_S, hcs]
            rw [hcu] at CU
            have E6 := E5.out _ rfl hcs
            obtain ⟨z1, z2⟩ := cut_sizes hcs
            have LE := Lib.hid fun W (hW : Below w.heap.size w W) => len6_any rk rv W (tb0.out.on hW) (by have : rk.size ≤ mid.length := z1; omega) (by have : rv.size ≤ mid.length := z2; omega)
            clear hcs hcu E3 E4 E5 z1 z2
            have SF := Lib.hid fun W => SF.out W (by omega)
            have CU := Lib.hid CU
            generalize Rc.S (mid ++ [10]) = tx at *
            generalize Rc.S mid = ty at *
            generalize Rc.lenR (rk, rv) = z at *
            by_cases hz : z = L
            · have hz2 : ((z : Int) != (L : Int)) = false := by simp [hz]
              rw [if_pos hz] at E6
              have E6 := Lib.hid E6
              subst hz
              go_wp2_with (first | (go_at_call 149; (with_reducible refine (SF.out _).mono ?_); rintro e w3 ⟨rfl, rfl⟩) | (go_at_call 150; (with_reducible refine (CU.out _).mono ?_); rintro e w4 ⟨rfl, hb4⟩; replace hb4 := bthen hb1 hb4; obtain ⟨c0, c1, f0, f1⟩ := B0.out _ (hb4.alloc hb4.size (.cells #[.string rk, .string rv] 128))) | (go_at_call 142; (with_reducible refine (LE.out _ (UN.out _ (hb4.alloc hb4.size _))).mono ?_); rintro e w5 ⟨rfl, hb5⟩; obtain ⟨q0, q1⟩ := box2 hb5; have hb6 := (hb4.alloc hb4.size (.cells #[.string rk, .string rv] 128)).trans (hb5.mono (by have := hb4.size; simp at this ⊢; omega)); obtain ⟨c2, c3, f2, f3⟩ := B0.out _ hb6))
              refine bodyPost_ret (v := .tuple #[.agg #[.string rk, .string rv], .int .i64 z, .int .i64 0]) (by simp [results, Tryz.f123, go_sem, *]) rfl ?_
              rw [E.out, E6.out]
              exact ⟨rfl, ((UN.out _ hb6).setCell (Nat.le_refl _) _).setCell (Nat.le_refl _) _⟩
            · have hz2 : ((z : Int) != (L : Int)) = true := by simp; omega
              rw [if_neg hz] at E6
              have E6 := Lib.hid E6
              clear hz
              go_wp2_with (first | (go_at_call 149; (with_reducible refine (SF.out _).mono ?_); rintro e w3 ⟨rfl, rfl⟩) | (go_at_call 150; (with_reducible refine (CU.out _).mono ?_); rintro e w4 ⟨rfl, hb4⟩; replace hb4 := bthen hb1 hb4; obtain ⟨c0, c1, f0, f1⟩ := B0.out _ (hb4.alloc hb4.size (.cells #[.string rk, .string rv] 128))) | (go_at_call 142; (with_reducible refine (LE.out _ (UN.out _ (hb4.alloc hb4.size _))).mono ?_); rintro e w5 ⟨rfl, hb5⟩; obtain ⟨q0, q1⟩ := box2 hb5; have hb6 := (hb4.alloc hb4.size (.cells #[.string rk, .string rv] 128)).trans (hb5.mono (by have := hb4.size; simp at this ⊢; omega)); obtain ⟨c2, c3, f2, f3⟩ := B0.out _ hb6))
              refine bodyPost_ret (v := .tuple #[.agg #[.string ⟨#[]⟩, .string ⟨#[]⟩], .int .i64 0, .int .i64 3]) (by simp [results, Tryz.f123, go_sem, *]) rfl ?_
              rw [E.out, E6.out]
              exact ⟨rfl, ((UN.out _ hb6).setCell (Nat.le_refl _) _).setCell (Nat.le_refl _) _⟩
        · have hx2 : (x == 10) = false := by simp [hx]
          rw [if_neg hx, hx2] at SF
          have E6 := Lib.hid (E3.out hx)
          have CU := fun W => cut6_below (Rc.S (mid ++ [x])) W (by rw [Rc.size_S, List.length_append]; simp; omega)
          obtain ⟨kk, vv, pp, hcu⟩ : ∃ kk vv pp, cutV6 (Rc.S (mid ++ [x])) = .tuple #[.string kk, .string vv, .bool pp] := by
            unfold cutV6
            split
            · exact ⟨_, _, _, rfl⟩
            · exact ⟨_, _, _, rfl⟩
          rw [hcu] at CU
          clear hx hx2 hcu E3 E4 E5
          have CU := Lib.hid CU
          generalize Rc.S (mid ++ [x]) = tx at *
          go_wp2_with (first | (go_at_call 149; (with_reducible refine (SF.out _ (by omega)).mono ?_); rintro e w3 ⟨rfl, rfl⟩) | (go_at_call 150; (with_reducible refine (CU.out _).mono ?_); rintro e w4 ⟨rfl, hb4⟩; replace hb4 := bthen hb1 hb4; obtain ⟨c0, c1, f0, f1⟩ := B0.out _ (hb4.alloc hb4.size (.cells #[.string kk, .string vv] 128))))
          refine bodyPost_ret (v := .tuple #[.agg #[.string ⟨#[]⟩, .string ⟨#[]⟩], .int .i64 0, .int .i64 3]) (by simp [results, Tryz.f123, go_sem, *]) rfl ?_
          rw [E.out, E6.out]
          exact ⟨rfl, ((((UN.out _ hb4).alloc (UN.out _ hb4).size _).setCell (Nat.le_refl _) _).setCell (Nat.le_refl _) _)⟩
end Go.Proofs.YtjofdgjcbjdhbaaGreatDoor
/- WALKS OF LAYER 6, TWELFTH PART: recs.Parse. -/
namespace Go.Proofs.YtjofdgjcbjdhbaaGreatDoor
open Go Go.RowKit
set_option linter.unusedVariables false
set_option maxHeartbeats 2000000
theorem parse_at_err {bs rest : Rc.Bs} {pre : List Rc.Rec} (h : Rc.parse bs = Rc.glue pre (Rc.parse rest)) (hb : rest ≠ []) (he : (Rc.firstL rest).2.2 ≠ 0) : Rc.parse bs = ([], (Rc.firstL rest).2.2) := by
  rw [h, Rc.parse_err hb he]
  unfold Rc.glue
  rw [if_neg he]
theorem parse_at_ok {bs rest : Rc.Bs} {pre : List Rc.Rec} (h : Rc.parse bs = Rc.glue pre (Rc.parse rest)) (hb : rest ≠ []) (he : (Rc.firstL rest).2.2 = 0) : Rc.parse bs = Rc.glue (pre ++ [(Rc.firstL rest).1]) (Rc.parse (rest.drop (Rc.firstL rest).2.1)) := by
  rw [h, Rc.parse_ok hb he, Rc.glue_glue]
theorem parse_at_end {bs : Rc.Bs} {pre : List Rc.Rec} (h : Rc.parse bs = Rc.glue pre (Rc.parse [])) : Rc.parse bs = (pre, 0) := by
  rw [h, Rc.parse_nil]
  simp [Rc.glue]
set_option maxRecDepth 100000 in
theorem parse_any (A : Option Addr) (n c : Nat) (bs : Rc.Bs) (w : World) (tb : Tab w) (ha : RB w w.heap.size A n (Rc.ints bs)) (hc : n ≤ c) (hc2 : c ≤ maxLen) (hn : n ≤ 1000000) :
    Calls Tryz.prog 90 #[.slice A n c] w fun e w' => ∃ u, e = .returned (.tuple #[u, .int .i64 (Rc.parse bs).2]) ∧ RO w' w.heap.size 128 u (Rc.parse bs).1 ∧ Below w.heap.size w w' := by
  obtain ⟨i0, hi, hz0, hz1, hz2⟩ := info_parts info_rec
  have hl : bs.length = n := by have := ha.1; rwa [Rc.ints_len] at this
  go_enter Tryz.func90, Tryz.ntmps90
  go_wp2
  go_loopw [0, 4] (fun b u wr => ∃ (A' : Option Addr) (m d : Nat) (rest : Rc.Bs) (pre : List Rc.Rec), b = .slice A' m d ∧ RB wr w.heap.size A' m (Rc.ints rest) ∧ m ≤ d ∧ m ≤ n ∧ d ≤ maxLen ∧ pre.length + m ≤ n ∧ Hid (Rc.parse bs = Rc.glue pre (Rc.parse rest)) ∧ Hid (RO wr w.heap.size 128 u pre) ∧ Below w.heap.size w wr) (fun b _ _ => lenV b)
  case atStart => exact ⟨A, n, c, bs, [], rfl, ha, hc, Nat.le_refl _, hc2, by simp, by show _ = _; rw [Rc.glue_nil _ (Rc.parse_shape _)], World.ownsRow_nil _ _ _ _, Below.refl _ _⟩
  case round =>
    obtain ⟨A', m, d, rest, pre, rfl, hr, hmd, hmn, hdm, hpm, HP, HO, hb⟩ := hrel
    have hrl : rest.length = m := by have := hr.1; rwa [Rc.ints_len] at this
    unfold maxLen at hdm
    by_cases hm : 0 < m
    · have hm' : (0 : Int) < m := by omega
      obtain ⟨b, o, rfl, hbl, _⟩ := hr.at0 hm
      have hne : rest ≠ [] := by intro e; subst e; simp at hrl; omega
      have FI := first_any _ m d rest wr (tb.on hb) (hr.more hb.size) hmd (by omega)
      have PE := Lib.hid (parse_at_err HP.out hne)
      have PO := Lib.hid (parse_at_ok HP.out hne)
      have IV := Lib.hid (fun h => (⟨(Rc.first_inv (b := rest) h).2.2.1, Rc.first_pos h⟩ : _ ∧ _))
      have hun : firstV (Rc.firstL rest) = .tuple #[.agg #[.string (Rc.firstL rest).1.1, .string (Rc.firstL rest).1.2], .int .i64 (Rc.firstL rest).2.1, .int .i64 (Rc.firstL rest).2.2] := rfl
      rw [hun] at FI
      clear hun
      obtain ⟨⟨⟨rk, rv⟩, z, er⟩, hF⟩ : ∃ F, Rc.firstL rest = F := ⟨_, rfl⟩
      rw [hF] at FI PE PO IV
      simp only at FI PE PO IV
      clear hF
      have FI := Lib.hid FI
      by_cases he : er = 0
      · subst he
        obtain ⟨i1, i2⟩ := IV.out rfl
        have PO2 := Lib.hid (PO.out rfl)
        clear IV PE hne PO
        have z1 : z ≤ m := by omega
        have z2 : (z : Int) ≤ m := by omega
        have z3 : z ≤ d := by omega
        obtain ⟨Au, cu, rfl, hcu⟩ := owns_slice HO.out
        have w3f : ∀ w2, Below wr.heap.size wr w2 → Hid (World.ownsRow ((w2.alloc (.cells #[.string rk, .string rv] 128)).alloc (.cells #[.string rk, .string rv] 128)) w.heap.size 128 2 (.slice Au pre.length cu) pre.length (cells2 pre)) ∧ Hid (Below w.heap.size w ((w2.alloc (.cells #[.string rk, .string rv] 128)).alloc (.cells #[.string rk, .string rv] 128))) ∧ Hid (∀ (j : Nat) u, [Value.string rk, Value.string rv][j]? = some u → ((w2.alloc (.cells #[.string rk, .string rv] 128)).alloc (.cells #[.string rk, .string rv] 128)).cell? ((⟨w2.heap.size + 1, 0, none⟩ : Addr).add j) = some u) := fun w2 hb2 => by
          refine ⟨owns_below (owns_below (owns_below HO.out hb2) (Below.alloc (Below.refl _ _) (Nat.le_refl _) _)) (Below.alloc (Below.refl _ _) (Nat.le_refl _) _), ?_, ?_⟩
          · exact ((hb.trans (hb2.mono hb.size)).alloc (by have := hb.size; have := hb2.size; omega) _).alloc (by have := hb.size; have := hb2.size; simp; omega) _
          · have := news2 (w2.alloc (.cells #[.string rk, .string rv] 128)) 128 rk rv
            rw [show (w2.alloc (.cells #[.string rk, .string rv] 128)).heap.size = w2.heap.size + 1 by simp] at this
            exact this
        have W3 := Lib.hid w3f; clear w3f
        go_wp2_with (first
          | (go_at_call 123; (with_reducible refine (FI.out).mono ?_); rintro e w2 ⟨rfl, hb2⟩; obtain ⟨HO3, HB3, NEWS⟩ := W3.out _ hb2)
          | (at_builtin; refine wpList_append_own _ rfl _ _ 67 rfl w.heap.size 128 i0 (.agg #[.string ⟨#[]⟩, .string ⟨#[]⟩]) 2 32 Tryz.underlying67 hi hz0 hz1 hz2 rfl (by decide) (.slice Au pre.length cu) pre.length (cells2 pre) rfl HO3.out ⟨w2.heap.size + 1, 0, none⟩ 1 1 [.string rk, .string rv] rfl rfl NEWS.out (two_cells rk rv) (by unfold maxLen; omega) (by omega) (by have := HB3.out.size; omega) ?_; intro v3 w3 hown3 hgrow3 hnil3; have HO4 := Lib.hid (RO.snoc hown3 rfl); have HB4 := Lib.hid (below_app6 HB3.out (Nat.le_refl _) HO3.out hgrow3); clear hown3 hgrow3 hnil3))
        go_roundw
        case rel =>
          have hr3 : RB w3 w.heap.size (some ⟨b, o, none⟩) m (Rc.ints rest) := hr.keep fun p hp => (HB4.out.cell hp).trans (hb.cell hp).symm
          have hr4 := hr3.cutAt (k := z) z1 hmd (by omega)
          rw [← Rc.ints_drop] at hr4
          exact ⟨_, _, _, rest.drop z, pre ++ [(rk, rv)], rfl, hr4, by omega, by omega, by unfold maxLen; omega, by simp; omega, PO2.out, HO4.out, HB4.out⟩
        case measure => simp only [lenV]; omega
      · have he2 : ((er : Int) != 0) = true := by simp; omega
        have E := Lib.hid (PE.out he)
        clear PE PO IV he hne
        go_wp2_with (go_at_call 123; (with_reducible refine (FI.out).mono ?_); rintro e w2 ⟨rfl, hb2⟩)
        go_ret2
        rw [E.out]
        exact ⟨_, rfl, World.ownsRow_nil _ _ _ _, (hb.trans (hb2.mono hb.size)).alloc (by have := hb.size; have := hb2.size; omega) _⟩
    · have hm0 : m = 0 := by omega
      subst hm0
      obtain rfl : rest = [] := List.length_eq_zero_iff.1 hrl
      have E := Lib.hid (parse_at_end HP.out)
      go_wp2
      go_ret2
      rw [E.out]
      exact ⟨_, rfl, HO.out, hb⟩
end Go.Proofs.YtjofdgjcbjdhbaaGreatDoor
