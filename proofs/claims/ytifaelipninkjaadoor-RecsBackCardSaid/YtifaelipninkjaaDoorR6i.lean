/- WALKS OF LAYER 6, NINTH PART: recs.told. -/
import Derived.Test.YtifaelipninkjaaDoorR6h
import Derived.Lib.SlBytesConst
namespace Go.Proofs.YtifaelipninkjaaDoor
open Go Go.RowKit
set_option linter.unusedVariables false
set_option maxHeartbeats 1000000
theorem isdig_any (c : Int) (w : World) : Calls Tryd.prog 35 #[.int .u8 c] w fun e w' => e = .returned (.bool (decide (48 ≤ c) && decide (c ≤ 57))) ∧ w = w' := by
  by_cases h1 : 48 ≤ c
  · rw [decide_eq_true h1]
    go_enter Tryd.func35, Tryd.ntmps35
    go_wp2
    go_ret
    exact ⟨rfl, rfl⟩
  · rw [decide_eq_false h1]
    go_enter Tryd.func35, Tryd.ntmps35
    go_wp2
    go_ret
    exact ⟨rfl, rfl⟩
theorem rb_one (w : World) (B g : Nat) (x : Int) (hB : g < B) (hg : w.cell? ⟨g, 0, none⟩ = some (.int .u8 x)) : RB w B (some ⟨g, 0, none⟩) 1 [x] := by
  refine ⟨rfl, fun _ => ⟨g, 0, rfl, hB, fun j hj => ?_⟩⟩
  obtain rfl : j = 0 := by omega
  exact hg
theorem rb_pre1 {w : World} {B n : Nat} {A : Option Addr} {xs : List Int} (h : RB w B A n xs) (hn : 0 < n) : RB w B A 1 [xs.getD 0 0] := by
  refine ⟨rfl, fun _ => ?_⟩
  obtain ⟨b, o, e, hb, hc⟩ := h.2 hn
  refine ⟨b, o, e, hb, fun j hj => ?_⟩
  obtain rfl : j = 0 := by omega
  exact hc 0 hn
set_option maxRecDepth 100000 in
theorem hasp_any (A : Option Addr) (n c g : Nat) (xs : List Int) (w : World) (ha : RB w w.heap.size A n xs) (hx : Byt xs) (hc : n ≤ c) (hgl : g < w.heap.size) (hg : w.cell? ⟨g, 0, none⟩ = some (.int .u8 32)) :
    Calls Tryd.prog 36 #[.slice A n c, .slice (some ⟨g, 0, none⟩) 1 1] w fun e w' => e = .returned (.bool (decide (0 < n ∧ xs.getD 0 0 = 32))) ∧ w = w' := by
  by_cases hn : 0 < n
  · have h1 : (1 : Int) ≤ n := by omega
    have h2 : 1 ≤ c := by omega
    have h3 : ¬ c = 0 := by omega
    have k := equal_any A (some ⟨g, 0, none⟩) 1 1 c 1 [xs.getD 0 0] [32] w (rb_pre1 ha hn) (rb_one w _ g 32 hgl hg) (Byt.cons (hx 0) Byt.nil) (Byt.cons (by decide) Byt.nil)
    have e : decide ([xs.getD 0 0] = [32]) = decide (0 < n ∧ xs.getD 0 0 = 32) := by rw [decide_eq_decide]; simp [hn]
    rw [e] at k
    have K := Lib.hid k
    clear k e
    generalize decide (0 < n ∧ xs.getD 0 0 = 32) = r at *
    go_enter Tryd.func36, Tryd.ntmps36
    go_wp2_with (go_at_call 47; (with_reducible refine (K.out).mono ?_); rintro e w' ⟨rfl, rfl⟩)
    go_ret
    exact ⟨rfl, rfl⟩
  · have h1 : ¬ (1 : Int) ≤ n := by omega
    have e : decide (0 < n ∧ xs.getD 0 0 = 32) = false := by simp; omega
    rw [e]
    go_enter Tryd.func36, Tryd.ntmps36
    go_wp2
    go_ret
    exact ⟨rfl, rfl⟩
theorem val_lt : ∀ (l : Rc.Bs), (∀ c ∈ l, Rc.isD c = true) → Rc.val l < 10 ^ l.length := by
  intro l
  generalize hn : l.length = n
  induction n generalizing l with
  | zero => intro _; obtain rfl : l = [] := List.length_eq_zero_iff.1 hn; decide
  | succ n ih =>
    intro h
    have hne : l ≠ [] := by intro e; subst e; simp at hn
    obtain ⟨t, c, rfl⟩ : ∃ t c, l = t ++ [c] := ⟨l.dropLast, l.getLast hne, (List.dropLast_concat_getLast hne).symm⟩
    have h1 := ih t (by simpa using hn) (fun x hx => h x (by simp [hx]))
    have h2 := Rc.isD_iff.1 (h c (by simp))
    rw [Rc.val_snoc, Nat.pow_succ]
    omega
theorem digs_mem {b : Rc.Bs} {j : Nat} (hj : j ≤ b.length) (h : ∀ i, i < j → Rc.isD (b.getD i 0) = true) : ∀ c ∈ b.take j, Rc.isD c = true := by
  intro c hc
  obtain ⟨i, hi, rfl⟩ := List.mem_iff_getElem.1 hc
  have hi2 : i < j := by simp at hi; omega
  have := h i hi2
  simpa [List.getD, show i < b.length by omega] using this
theorem take_val {b : Rc.Bs} {j : Nat} (hj : j < b.length) : Rc.val (b.take (j + 1)) = 10 * Rc.val (b.take j) + ((b.getD j 0).toNat - 48) := by
  rw [List.take_succ_eq_append_getElem hj, Rc.val_snoc]
  simp [List.getD, hj]
theorem get_some {b : Rc.Bs} {j : Nat} {x : UInt8} : b[j]? = some x ↔ j < b.length ∧ b.getD j 0 = x := by
  constructor
  · intro h
    exact ⟨(List.getElem?_eq_some_iff.1 h).1, by simp [List.getD, h]⟩
  · rintro ⟨h, e⟩
    rw [List.getElem?_eq_getElem h, ← e]
    simp [List.getD, h]
theorem conv_blank (w : World) : (convert 25 25 (.slice (some ⟨w.heap.size, 0, none⟩) 1 1)).run Tryd.prog (w.alloc (.cells #[.int .u8 32] 5)) = .ok (.slice (some ⟨w.heap.size, 0, none⟩) 1 1) (w.alloc (.cells #[.int .u8 32] 5 (1, 2))) :=
  Lib.run_convert_bytes_const w 25 5 #[.int .u8 32] 1 1 Tryd.underlying25 Tryd.underlying5
theorem blank_cell (w : World) (e : TypeId) : (w.alloc (.cells #[.int .u8 32] e (1, 2))).cell? ⟨w.heap.size, 0, none⟩ = some (.int .u8 32) := by
  have h : (w.alloc (.cells #[.int .u8 32] e (1, 2))).heap[w.heap.size]? = some (.cells #[.int .u8 32] e (1, 2)) := by
    show (w.heap.push _)[w.heap.size]? = _
    simp
  unfold World.cell?
  rw [h]; rfl
/-- What 'told' answers. -/
def ToldOk (bs : Rc.Bs) (L d : Nat) (ok : Bool) : Prop := (ok = true → Rc.told bs = some (L, d)) ∧ (ok = false → Rc.told bs = none)
def ToldPost (bs : Rc.Bs) (w : World) (e : Ending) (w' : World) : Prop := ∃ (L d : Nat) (ok : Bool), e = .returned (.tuple #[.int .i64 L, .int .i64 d, .bool ok]) ∧ ToldOk bs L d ok ∧ Below w.heap.size w w'
set_option maxRecDepth 100000 in
theorem told_any (A : Option Addr) (n c : Nat) (bs : Rc.Bs) (w : World) (ha : RB w w.heap.size A n (Rc.ints bs)) (hc : n ≤ c) (hn : n ≤ 1000000) :
    Calls Tryd.prog 30 #[.slice A n c] w (ToldPost bs w) := by
  have cvs := conv_blank w
  have hl : bs.length = n := by have := ha.1; rwa [Rc.ints_len] at this
  obtain ⟨m, hm⟩ : ∃ m : Nat, m = min n 4 := ⟨_, rfl⟩
  have hmi : min (n : Int) 4 = (m : Int) := by omega
  have hmn : m ≤ n := by omega
  have hm4 : m ≤ 4 := by omega
  have hme : m = 4 ∨ m = bs.length := by omega
  have ID := Lib.hid isdig_any
  clear hm
  go_enter Tryd.func30, Tryd.ntmps30
  go_wp2
  go_loop [5, 6] (fun L i => ∃ j : Nat, j ≤ m ∧ L = .int .i64 (Rc.val (bs.take j)) ∧ i = .int .i64 j ∧ Hid (∀ x, x < j → Rc.isD (bs.getD x 0) = true)) (fun _ i => m - (intOf i).toNat)
  case atStart => exact ⟨0, by omega, rfl, rfl, fun x hx => absurd hx (Nat.not_lt_zero _)⟩
  case round =>
    obtain ⟨j, hj, rfl, rfl, HD⟩ := hrel
    have hv := val_lt _ (digs_mem (b := bs) (j := j) (by omega) HD)
    rw [show (bs.take j).length = j by rw [List.length_take]; omega] at hv
    have hv4 : Rc.val (bs.take j) < 10000 := Nat.lt_of_lt_of_le hv (Nat.le_trans (Nat.pow_le_pow_right (by omega) (show j ≤ 4 by omega)) (by decide))
    clear hv
    by_cases hlt : j < m ∧ Rc.isD (bs.getD j 0) = true
    · obtain ⟨hlt, hd⟩ := hlt
      have hlt' : (j : Int) < m := by omega
      obtain ⟨b, o, rfl, hbl, hcell⟩ := ha.at_ (show j < n by omega)
      rw [Rc.ints_getD] at hcell
      have HV := Lib.hid (take_val (b := bs) (j := j) (by omega))
      have HX := Lib.hid (show ∀ x, x < j + 1 → Rc.isD (bs.getD x 0) = true from fun x hx => by
        by_cases e : x = j
        · subst e; exact hd
        · exact HD x (by omega))
      obtain ⟨h48, h57⟩ := Rc.isD_iff.1 hd
      clear hd
      generalize bs.getD j 0 = x at *
      generalize hxn : x.toNat = q at *
      clear hxn
      generalize Rc.val (bs.take j) = L at *
      have d1 : (decide ((48 : Int) ≤ q) && decide ((q : Int) ≤ 57)) = true := by simp; omega
      have w1 : IntKind.u8.wrap ((q : Int) - 48) = (q : Int) - 48 := by rw [IntKind.wrap_u8]; omega
      have w2 : IntKind.i64.wrap (10 * (L : Int)) = 10 * (L : Int) := IntWalk.i64_in _ (by omega)
      have w3 : IntKind.i64.wrap (10 * (L : Int) + ((q : Int) - 48)) = 10 * (L : Int) + ((q : Int) - 48) := IntWalk.i64_in _ (by omega)
      go_wp2_with (go_at_call 35; (with_reducible refine (ID.out _ _).mono ?_); rintro e w' ⟨rfl, rfl⟩; rw [d1])
      go_round
      case rel => exact ⟨j + 1, by omega, by rw [HV.out]; congr 1; omega, by go_num, HX.out⟩
      case measure => simp [intOf]; omega
    · -- the ends
      have he : 4 ≤ j ∨ j = bs.length ∨ Rc.isD (bs.getD j 0) = false := by
        by_cases h : j < m
        · right; right
          cases hh : Rc.isD (bs.getD j 0)
          · rfl
          · exact absurd ⟨h, hh⟩ hlt
        · omega
      have TN := Lib.hid (Rc.told_none HD (by omega) he)
      have TS := Lib.hid (fun (a : 1 ≤ j) => Rc.told_some HD a (by omega))
      have hw : Below w.heap.size w (w.alloc (.cells #[.int .u8 32] 5 (1, 2))) := (Below.refl _ _).alloc (Nat.le_refl _) _
      by_cases hjm : j < m
      · have hlt' : (j : Int) < m := by omega
        have hnd : Rc.isD (bs.getD j 0) = false := by
          cases hh : Rc.isD (bs.getD j 0)
          · rfl
          · exact absurd ⟨hjm, hh⟩ hlt
        have d1 : (decide ((48 : Int) ≤ (bs.getD j 0).toNat) && decide (((bs.getD j 0).toNat : Int) ≤ 57)) = false := by
          unfold Rc.isD at hnd
          rw [← hnd]
          congr 1 <;> rw [decide_eq_decide] <;> omega
        obtain ⟨b', o', hA, _, hcell⟩ := ha.at_ (show j < n by omega)
        rw [Rc.ints_getD] at hcell
        clear hnd
        generalize (bs.getD j 0).toNat = q at *
        subst hA
        by_cases h0 : j = 0
        · subst h0
          try rw [Nat.add_zero] at hcell
          have T := Lib.hid (TN.out (.inl rfl))
          clear he hlt
          go_wp2_with (first | (go_at_call 35; (with_reducible refine (ID.out _ _).mono ?_); rintro e w' ⟨rfl, rfl⟩; rw [d1]))
          go_ret3
          refine ⟨Rc.val [], 0, false, rfl, ?_, Below.refl _ _⟩
          exact ⟨fun h => (by cases h), fun _ => T.out⟩
        · obtain ⟨b, o, hA2, hbl, hc0⟩ := ha.at0 (show 0 < n by omega)
          first | subst hA2 | cases hA2
          rw [Rc.ints_getD] at hc0
          have hj0 : (0 : Int) < j := by omega
          by_cases h48 : bs.getD 0 0 = 48
          · have T := Lib.hid (TN.out (.inr (.inr (.inl h48))))
            rw [h48] at hc0
            clear he hlt h48
            go_wp2_with (first | (go_at_call 35; (with_reducible refine (ID.out _ _).mono ?_); rintro e w' ⟨rfl, rfl⟩; rw [d1]))
            go_ret3
            refine ⟨Rc.val (bs.take j), j, false, rfl, ?_, Below.refl _ _⟩
            exact ⟨fun h => (by cases h), fun _ => T.out⟩
          · have T1 := Lib.hid (TN.out)
            have T2 := Lib.hid (TS.out (by omega) h48)
            have g48 : (((bs.getD 0 0).toNat : Int) != 48) = true := by
              simp only [bne_iff_ne, ne_eq]
              intro e
              exact h48 (UInt8.toNat_inj.1 (by show (bs.getD 0 0).toNat = 48; omega))
            have hrb := (ha.alloc (Nat.le_refl _) (.cells #[.int .u8 32] 5 (1, 2))).cutAt (k := j) (by omega) hc (by omega)
            have KP := hasp_any _ _ (c - j) w.heap.size _ (w.alloc (.cells #[.int .u8 32] 5 (1, 2))) (hrb.more (by simp)) ((Rc.ints_byt bs).drop j) (by omega) (by simp) (blank_cell w _)
            have hr : decide (0 < n - j ∧ ((Rc.ints bs).drop j).getD 0 0 = 32) = decide (bs[j]? = some 32) := by
              rw [decide_eq_decide, get_some, ← Rc.ints_drop, Rc.ints_getD]
              have e : (bs.drop j).getD 0 0 = bs.getD j 0 := by simp [List.getD]
              rw [e]
              constructor
              · rintro ⟨a, b⟩; exact ⟨by omega, UInt8.toNat_inj.1 (by show _ = 32; omega)⟩
              · rintro ⟨a, b⟩; exact ⟨by omega, by rw [b]; rfl⟩
            rw [hr] at KP
            clear hr hrb
            have TE : ToldOk bs (Rc.val (bs.take j)) j (decide (bs[j]? = some 32)) := ⟨fun h => T2.out (of_decide_eq_true h), fun h => T1.out (.inr (.inr (.inr (of_decide_eq_false h))))⟩
            have TE := Lib.hid TE
            clear TN TS T1 T2 he hlt h48
            generalize decide (bs[j]? = some 32) = ok at *
            generalize (bs.getD 0 0).toNat = z at *
            generalize Rc.val (bs.take j) = L at *
            by_cases hcj : c = j
            · rw [if_pos hcj] at KP
              have e1 : n - j = 0 := by omega
              have e2 : c - j = 0 := by omega
              rw [e1, e2] at KP
              have hnj : n = j := by omega
              have KP := Lib.hid KP
              subst hcj
              clear e1 e2
              go_wp2_with (first | (go_at_call 35; (with_reducible refine (ID.out _ _).mono ?_); rintro e w' ⟨rfl, rfl⟩; rw [d1]) | (go_at_call 36; (with_reducible refine (KP.out).mono ?_); rintro e w' ⟨rfl, rfl⟩))
              all_goals
                go_ret3
                exact ⟨L, _, ok, rfl, TE.out, hw⟩
            · rw [if_neg hcj] at KP
              have KP := Lib.hid KP
              have hjc : j ≤ c := by omega
              go_wp2_with (first | (go_at_call 35; (with_reducible refine (ID.out _ _).mono ?_); rintro e w' ⟨rfl, rfl⟩; rw [d1]) | (go_at_call 36; (with_reducible refine (KP.out).mono ?_); rintro e w' ⟨rfl, rfl⟩))
              go_ret3
              exact ⟨L, _, ok, rfl, TE.out, hw⟩
      · have hlt' : ¬ (j : Int) < m := by omega
        by_cases h0 : j = 0
        · subst h0
          try rw [Nat.add_zero] at hcell
          have T := Lib.hid (TN.out (.inl rfl))
          clear he hlt
          go_wp2_with (first | fail)
          go_ret3
          refine ⟨Rc.val [], 0, false, rfl, ?_, Below.refl _ _⟩
          exact ⟨fun h => (by cases h), fun _ => T.out⟩
        · obtain ⟨b, o, hA2, hbl, hc0⟩ := ha.at0 (show 0 < n by omega)
          first | subst hA2 | cases hA2
          rw [Rc.ints_getD] at hc0
          have hj0 : (0 : Int) < j := by omega
          by_cases h48 : bs.getD 0 0 = 48
          · have T := Lib.hid (TN.out (.inr (.inr (.inl h48))))
            rw [h48] at hc0
            clear he hlt h48
            go_wp2_with (first | fail)
            go_ret3
            refine ⟨Rc.val (bs.take j), j, false, rfl, ?_, Below.refl _ _⟩
            exact ⟨fun h => (by cases h), fun _ => T.out⟩
          · have T1 := Lib.hid (TN.out)
            have T2 := Lib.hid (TS.out (by omega) h48)
            have g48 : (((bs.getD 0 0).toNat : Int) != 48) = true := by
              simp only [bne_iff_ne, ne_eq]
              intro e
              exact h48 (UInt8.toNat_inj.1 (by show (bs.getD 0 0).toNat = 48; omega))
            have hrb := (ha.alloc (Nat.le_refl _) (.cells #[.int .u8 32] 5 (1, 2))).cutAt (k := j) (by omega) hc (by omega)
            have KP := hasp_any _ _ (c - j) w.heap.size _ (w.alloc (.cells #[.int .u8 32] 5 (1, 2))) (hrb.more (by simp)) ((Rc.ints_byt bs).drop j) (by omega) (by simp) (blank_cell w _)
            have hr : decide (0 < n - j ∧ ((Rc.ints bs).drop j).getD 0 0 = 32) = decide (bs[j]? = some 32) := by
              rw [decide_eq_decide, get_some, ← Rc.ints_drop, Rc.ints_getD]
              have e : (bs.drop j).getD 0 0 = bs.getD j 0 := by simp [List.getD]
              rw [e]
              constructor
              · rintro ⟨a, b⟩; exact ⟨by omega, UInt8.toNat_inj.1 (by show _ = 32; omega)⟩
              · rintro ⟨a, b⟩; exact ⟨by omega, by rw [b]; rfl⟩
            rw [hr] at KP
            clear hr hrb
            have TE : ToldOk bs (Rc.val (bs.take j)) j (decide (bs[j]? = some 32)) := ⟨fun h => T2.out (of_decide_eq_true h), fun h => T1.out (.inr (.inr (.inr (of_decide_eq_false h))))⟩
            have TE := Lib.hid TE
            clear TN TS T1 T2 he hlt h48
            generalize decide (bs[j]? = some 32) = ok at *
            generalize (bs.getD 0 0).toNat = z at *
            generalize Rc.val (bs.take j) = L at *
            by_cases hcj : c = j
            · rw [if_pos hcj] at KP
              have e1 : n - j = 0 := by omega
              have e2 : c - j = 0 := by omega
              rw [e1, e2] at KP
              have hnj : n = j := by omega
              have KP := Lib.hid KP
              subst hcj
              clear e1 e2
              go_wp2_with (first | fail | (go_at_call 36; (with_reducible refine (KP.out).mono ?_); rintro e w' ⟨rfl, rfl⟩))
              all_goals
                go_ret3
                exact ⟨L, _, ok, rfl, TE.out, hw⟩
            · rw [if_neg hcj] at KP
              have KP := Lib.hid KP
              have hjc : j ≤ c := by omega
              go_wp2_with (first | fail | (go_at_call 36; (with_reducible refine (KP.out).mono ?_); rintro e w' ⟨rfl, rfl⟩))
              go_ret3
              exact ⟨L, _, ok, rfl, TE.out, hw⟩
end Go.Proofs.YtifaelipninkjaaDoor
