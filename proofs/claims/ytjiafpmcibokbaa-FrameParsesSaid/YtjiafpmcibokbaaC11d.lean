/- WALKS OF LAYER 11, FOURTH PART: parts one behind the other; what is sealed, and the reference's. -/
import Derived.Test.YtjiafpmcibokbaaC11c
namespace Go.Proofs.Ytjiafpmcibokbaa
open Go.RowKit
set_option maxHeartbeats 400000
set_option maxRecDepth 100000
set_option linter.unusedVariables false
theorem flat_len_take {l : List Pc} {k : Nat} {p : Pc} (h : l[k]? = some p) : (flat (l.take (k + 1))).length = (flat (l.take k)).length + p.xs.length := by
  rw [take_snocP h, flat_snoc, List.length_append]
theorem flat_append (l r : List Pc) : flat (l ++ r) = flat l ++ flat r := by simp [flat]
theorem flat_take_le (l : List Pc) (k : Nat) : (flat (l.take k)).length ≤ (flat l).length := by
  have h : flat l = flat (l.take k) ++ flat (l.drop k) := by rw [← flat_append, List.take_append_drop]
  rw [h, List.length_append]
  omega
theorem concat_any (A : Option Addr) (m c : Nat) (l : List Pc) (w : World) (h : PL w w.heap.size A m l) (hm : m ≤ 1000000) (hl : (flat l).length ≤ 900000) :
    Calls Try.prog 45 #[.slice A m c] w fun e w' => ∃ v, e = .returned v ∧ OBn w' w.heap.size 5 v (flat l).length (flat l) ∧ Below w.heap.size w w' := by
  obtain ⟨i0, hi, hz0, hz1, hz2⟩ := info_parts info_u8
  have HL := Lib.hid h.1
  have HT := Lib.hid (fun k => flat_take_le l k)
  go_enter Try.func45, Try.ntmps45
  go_wp2
  go_loop [3, 11] (fun v i => ∃ k : Nat, k ≤ m ∧ i = .int .i64 k ∧ v = .int .i64 ((flat (l.take k)).length : Nat)) (fun _ i => m - (intOf i).toNat)
  case atStart => exact ⟨0, by omega, rfl, rfl⟩
  case round =>
    obtain ⟨k, hk, rfl, rfl⟩ := hrel
    by_cases hlt : k < m
    · obtain ⟨p, b, o, hp, _, rfl, _, hc, hr, _, _, _⟩ := h.at_ hlt
      have t1 := HT.out (k + 1)
      have E := flat_len_take hp
      clear hp
      obtain ⟨PA, pn, pc, px⟩ := p
      simp only at hc hr E
      rw [hr.1] at E
      generalize (flat (l.take k)).length = a at *
      rw [E] at t1
      have EE := Lib.hid E
      clear E hr
      have s1 : IntKind.i64.wrap ((a : Int) + (pn : Int)) = ((a + pn : Nat) : Int) := by rw [IntWalk.i64_in _ (by omega)]; omega
      go_wp2
      go_round
      case rel => exact ⟨k + 1, by omega, by go_num, by rw [EE.out]; simp⟩
      case measure => simp [intOf]; omega
    · have e : k = m := by omega
      subst e
      rw [List.take_of_length_le (by rw [HL.out]; exact Nat.le_refl _)]
      obtain ⟨D, hD⟩ : ∃ D, (flat l).length = D := ⟨_, rfl⟩
      have hD2 : D ≤ 900000 := by omega
      rw [hD]
      have HD := Lib.hid hD
      have g := Lib.hid (slgrow_any D w (by omega))
      clear hD hl
      go_wp2_with (go_at_call 54; (with_reducible refine g.out.mono ?_); rintro e w1 ⟨v1, rfl, ho1, hb1⟩; have HO1 := Lib.hid ho1; have HB1 := Lib.hid hb1; clear ho1 hb1)
      go_loopw [6, 27] (fun v i wr => ∃ j : Nat, j ≤ k ∧ i = .int .i64 j ∧ OBn wr w.heap.size 5 v (flat (l.take j)).length (flat (l.take j)) ∧ Below w.heap.size w wr) (fun _ i _ => k - (intOf i).toNat)
      case atStart => exact ⟨0, by omega, rfl, HO1.out, HB1.out⟩
      case round =>
        obtain ⟨j, hj, rfl, ho, hb⟩ := hrel
        have HO := Lib.hid ho; have HB := Lib.hid hb
        by_cases hjl : j < k
        · obtain ⟨p, b, o, hp, _, rfl, hbB, hc, hr, _, _, _⟩ := (h.below hb).at_ hjl
          have t1 := HT.out (j + 1)
          have E := flat_len_take hp
          have E2 := take_snocP hp
          clear hp
          obtain ⟨PA, pn, pc, px⟩ := p
          simp only at hc hr E E2
          rw [hr.1] at E
          rw [E, HD.out] at t1
          have HR := Lib.hid hr; have HE := Lib.hid E; have HE2 := Lib.hid E2
          obtain ⟨a, ha⟩ : ∃ a, (flat (l.take j)).length = a := ⟨_, rfl⟩
          rw [ha] at t1 HO HE
          clear E E2 hr ho hb
          go_wp2_with (at_builtin; obtain ⟨v2, w2, hrun, hown, hgrow⟩ := run_append_rb (P := Try.prog) w.heap.size w.heap.size 28 28 5 i0 Try.underlying28 hi hz0 hz1 hz2 _ a _ HO.out PA pn pc px HR.out (by omega) HB.out.size
                       refine Lib.wpList_append_run _ rfl _ _ 28 28 rfl _ (.slice PA pn pc) rfl rfl _ _ hrun ?_
                       have hb2 := below_app HB.out (Nat.le_refl _) HO.out hgrow
                       have HB2 := Lib.hid hb2; have HO2 := Lib.hid hown
                       clear hrun hown hgrow hb2)
          go_roundw
          case rel => exact ⟨j + 1, by omega, by go_num, by rw [HE.out, HE2.out, flat_snoc]; exact HO2.out, HB2.out⟩
          case measure => simp [intOf]; omega
        · have e : j = k := by omega
          subst e
          rw [List.take_of_length_le (by rw [HL.out]; exact Nat.le_refl _)] at HO
          clear ho hb
          go_wp2
          go_ret
          exact ⟨_, rfl, by rw [← HD.out]; exact HO.out, HB.out⟩
theorem seal_any (A : Option Addr) (n c : Nat) (xs : List Int) (w : World) (ha : RB w w.heap.size A n xs) (hy : Byt xs) (hn : n ≤ c) (hc : c ≤ maxLen) (hn2 : n ≤ 500000) :
    Calls Try.prog 26 #[.slice A n c] w fun e w' => ∃ v, e = .returned v ∧ OBn w' w.heap.size 5 v (n + 4) (Ck.sealed xs) ∧ Below w.heap.size w w' := by
  have hxl := ha.1
  have s := sum_any A n c xs w ha hy hn hc
  have hsl := Ck.sum_lt hy
  have hlb := Ck.lay_byt hsl
  have E : Hid (Ck.sealed xs = xs ++ Ck.lay (Ck.sum xs)) := rfl
  generalize Ck.sum xs = q at *
  have ly := fun W => lay_any q W hsl
  have S := Lib.hid s; have LY := Lib.hid ly
  have cc : Hid (∀ (W W2 : World) (B : Option Addr) (d : Nat), W.alloc (.cells #[.slice A n c, .slice B 4 d] 28) = W2 → Below w.heap.size w W → RB W W.heap.size B 4 (Ck.lay q) → 4 ≤ d → d ≤ maxLen →
      Calls Try.prog 45 #[.slice (some ⟨W.heap.size, 0, none⟩) 2 2] W2 fun e w' => ∃ v, e = .returned v ∧ OBn w' w.heap.size 5 v (n + 4) (Ck.sealed xs) ∧ Below w.heap.size w w') := by
    intro W W2 B d hW hbw hrb hd hd2
    have hb : Below W.heap.size W W2 := by rw [← hW]; exact (Below.refl _ W).alloc (Nat.le_refl _) _
    have hs : W.heap.size < W2.heap.size := by rw [← hW]; simp
    have hrow : W2.heap[W.heap.size]? = some (.cells #[.slice A n c, .slice B 4 d] 28 (0, 0)) := by rw [← hW]; exact heap_alloc_new _ _
    have hra := ((ha.below hbw).more hbw.size)
    have hp : PL W2 W2.heap.size (some ⟨W.heap.size, 0, none⟩) 2 [⟨A, n, c, xs⟩, ⟨B, 4, d, Ck.lay q⟩] :=
      ⟨rfl, fun _ => ⟨W.heap.size, 0, rfl, hs, fun j p hj => by
        rcases (by have := (List.getElem?_eq_some_iff.1 hj).1; simp at this; omega : j = 0 ∨ j = 1) with rfl | rfl
        · obtain rfl : p = ⟨A, n, c, xs⟩ := by simpa using hj.symm
          exact cell_of_row W2 W.heap.size 0 _ _ _ hrow
        · obtain rfl : p = ⟨B, 4, d, Ck.lay q⟩ := by simpa using hj.symm
          exact cell_of_row W2 W.heap.size 1 _ _ _ hrow⟩, fun p hp => by
        rcases (by simpa using hp : p = ⟨A, n, c, xs⟩ ∨ p = ⟨B, 4, d, Ck.lay q⟩) with rfl | rfl
        · exact ⟨(hra.below hb).more hb.size, hy, hn, hc⟩
        · exact ⟨(hrb.below hb).more hb.size, hlb, hd, hd2⟩⟩
    have hfl : flat [⟨A, n, c, xs⟩, ⟨B, 4, d, Ck.lay q⟩] = Ck.sealed xs := by rw [E.out]; simp [flat]
    have hln : (Ck.sealed xs).length = n + 4 := by rw [Ck.sealed_len, hxl]
    have o := concat_any (some ⟨W.heap.size, 0, none⟩) 2 2 _ W2 hp (by omega) (by rw [hfl, hln]; omega)
    rw [hfl, hln] at o
    have hsz : w.heap.size ≤ W2.heap.size := by have := hbw.size; omega
    refine o.mono fun e w' ⟨v, he, ho, hb3⟩ => ⟨v, he, ?_, (hbw.trans (hb.mono hbw.size)).trans (hb3.mono hsz)⟩
    refine ⟨ho.1, ?_⟩
    rcases ho.2 with h0 | ⟨g, cap, cur, h1, h2, h3⟩
    · exact .inl h0
    · exact .inr ⟨g, cap, cur, h1, by omega, h3⟩
  clear s ly E hxl hlb hsl
  go_enter Try.func26, Try.ntmps26
  go_wp2_with (first
    | (go_at_call 47; (with_reducible refine S.out.mono ?_); rintro e w1 ⟨rfl, hb1⟩; have HB1 := Lib.hid hb1; clear hb1)
    | (go_at_call 46; (with_reducible refine (LY.out _).mono ?_); rintro e w2 ⟨v2, rfl, ho2, hb2⟩; obtain ⟨B2, d2, rfl, hr2, hd2, hm2⟩ := ho2.slice; have HB2 := Lib.hid (bthen HB1.out hb2); have HR2 := Lib.hid hr2; have HM2 := Lib.hid hm2; clear hb2 ho2 hr2 hm2)
    | (go_at_call 45; (with_reducible refine (cc.out _ _ B2 d2 rfl HB2.out HR2.out hd2 HM2.out).mono ?_); rintro e w3 ⟨v3, rfl, ho3, hb3⟩; have HO3 := Lib.hid ho3; have HB3 := Lib.hid hb3; clear ho3 hb3))
  go_ret
  exact ⟨v3, rfl, HO3.out, HB3.out⟩
theorem rb_row (w : World) (e : TypeId) (xs : List Int) (n : Nat) (h : xs.length = n) : RB (w.alloc (.cells (xs.map (Value.int .u8)).toArray e)) (w.heap.size + 1) (some ⟨w.heap.size, 0, none⟩) n xs :=
  ⟨h, fun _ => ⟨w.heap.size, 0, rfl, by omega, fun j hj => by
    rw [cell_of_row (w.alloc (.cells (xs.map (Value.int .u8)).toArray e)) w.heap.size (0 + j) _ e (0, 0) (heap_alloc_new w _)]
    simp [List.getD, show j < xs.length from by omega]⟩⟩
theorem Ck.lay_int (q : Nat) : Ck.lay q = [(q : Int) % 256, (q : Int) / 256 % 256, (q : Int) / 65536 % 256, (q : Int) / 16777216] := rfl
theorem refseal_any (A : Option Addr) (n c : Nat) (xs : List Int) (w : World) (ha : RB w w.heap.size A n xs) (hy : Byt xs) (hn2 : n ≤ 500000) :
    Calls Try.prog 18 #[.slice A n c] w fun e w' => ∃ v, e = .returned v ∧ OBn w' w.heap.size 5 v (n + 4) (Ck.sealed xs) ∧ Below w.heap.size w w' := by
  obtain ⟨i0, hi, hz0, hz1, hz2⟩ := info_parts info_u8
  have s := refsum_any A n c xs w ha hy (by omega)
  have hsl := Ck.sum_lt hy
  have E : Hid (Ck.sealed xs = xs ++ Ck.lay (Ck.sum xs)) := rfl
  generalize Ck.sum xs = q at *
  have s0 : IntKind.u8.wrap ((q : Int) % 256) = ((q % 256 : Nat) : Int) := by rw [IntKind.wrap_u8']; omega
  have s1 : IntKind.u8.wrap ((q : Int) / 256 % 256) = ((q / 256 % 256 : Nat) : Int) := by rw [IntKind.wrap_u8']; omega
  have s2 : IntKind.u8.wrap ((q : Int) / 65536 % 256) = ((q / 65536 % 256 : Nat) : Int) := by rw [IntKind.wrap_u8']; omega
  have s3 : IntKind.u8.wrap ((q : Int) / 16777216) = ((q / 16777216 : Nat) : Int) := by rw [IntKind.wrap_u8']; omega
  have S := Lib.hid s; have HA := Lib.hid ha; have HY := Lib.hid hy
  clear s ha
  go_enter Try.func18, Try.ntmps18
  go_wp2_with (first
    | (go_at_call 33; (with_reducible refine S.out.mono ?_); rintro e w' ⟨rfl, rfl⟩)
    | (at_builtin; obtain ⟨v1, w1, hrun, hown, hgrow⟩ := run_append_rb (P := Try.prog) w.heap.size w.heap.size 28 28 5 i0 Try.underlying28 hi hz0 hz1 hz2 (.slice none 0 0) 0 [] (World.ownsRow_nil _ _ _ _) A n c xs HA.out (by omega) (Nat.le_refl _)
       refine Lib.wpList_append_run _ rfl _ _ 28 28 rfl (.slice none 0 0) (.slice A n c) rfl rfl _ _ hrun ?_
       have hb1 : Below w.heap.size w w1 := (Below.refl _ w).grown hgrow (Nat.le_refl _) (by intro k hk; simp [Value.ownBlock] at hk)
       have HB1 := Lib.hid hb1; have HO1 : Hid (OBn w1 w.heap.size 5 v1 n xs) := Lib.hid (by simpa using hown)
       clear hrun hown hgrow hb1)
    | (at_builtin; obtain ⟨v2, w2, hrun, hown, hgrow⟩ := run_append_rb (P := Try.prog) w.heap.size (w1.heap.size + 1) 28 28 5 i0 Try.underlying28 hi hz0 hz1 hz2 v1 n xs (HO1.out.alloc (.cells #[.int .u8 ((q : Int) % 256), .int .u8 ((q : Int) / 256 % 256), .int .u8 ((q : Int) / 65536 % 256), .int .u8 ((q : Int) / 16777216)] 5)) (some ⟨w1.heap.size, 0, none⟩) 4 4 [(q : Int) % 256, (q : Int) / 256 % 256, (q : Int) / 65536 % 256, (q : Int) / 16777216] (rb_row w1 5 _ 4 rfl) (by omega) (by have := HB1.out.size; simp; omega)
       refine Lib.wpList_append_run _ rfl _ _ 28 28 rfl v1 (.slice (some ⟨w1.heap.size, 0, none⟩) 4 4) rfl rfl _ _ hrun ?_
       have hb2 := below_app (HB1.out.alloc HB1.out.size _) (Nat.le_refl _) (HO1.out.alloc (.cells #[.int .u8 ((q : Int) % 256), .int .u8 ((q : Int) / 256 % 256), .int .u8 ((q : Int) / 65536 % 256), .int .u8 ((q : Int) / 16777216)] 5)) hgrow
       have HB2 := Lib.hid hb2; have HO2 := Lib.hid hown
       clear hrun hown hgrow hb2))
  go_ret
  exact ⟨v2, rfl, by rw [E.out, Ck.lay_int]; exact HO2.out, HB2.out⟩
end Go.Proofs.Ytjiafpmcibokbaa
