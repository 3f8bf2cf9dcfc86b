/- WALKS OF LAYER 12, SECOND PART: the reference's root and primes. -/
import Derived.Test.YtfggknplekiaoaaDoorD12a
import Derived.Test.YtfggknplekiaoaaDoorAp
namespace Go.Proofs.YtfggknplekiaoaaDoor
open Go.RowKit
set_option maxHeartbeats 400000
set_option maxRecDepth 100000
set_option linter.unusedVariables false
namespace Dg
theorem rt_bd (p : Nat) (third : Bool) : ∀ j, j ≤ 36 → rt p third j + 2 ^ (36 - j) ≤ 68719476736
  | 0, _ => by show 0 + 2 ^ 36 ≤ _; omega
  | j + 1, h => by
    have ih := rt_bd p third j (by omega)
    rw [show 36 - j = (35 - j) + 1 from by omega, Nat.pow_succ] at ih
    rw [show 36 - (j + 1) = 35 - j from by omega]
    unfold rt
    generalize 2 ^ (35 - j) = k at *
    split <;> (split <;> omega)
theorem rt_step (p : Nat) (third : Bool) (j : Nat) : rt p third (j + 1) = if (if third then cu (rt p third j + 2 ^ (35 - j)) p else sq (rt p third j + 2 ^ (35 - j)) p) then rt p third j + 2 ^ (35 - j) else rt p third j := rfl
end Dg
theorem root_any (p : Nat) (third : Bool) (w : World) (hp : p < 100000) :
    Calls Tryd.prog 15 #[.int .i64 p, .bool third] w fun e w' => e = .returned (.int .u32 (Dg.root p third : Nat)) ∧ Below w.heap.size w w' := by
  have R : Hid (Dg.root p third = Dg.rt p third 36 % 4294967296) := rfl
  have bd := Lib.hid (Dg.rt_bd p third)
  have stp := Lib.hid (Dg.rt_step p third)
  generalize Dg.root p third = rr at *
  go_enter Tryd.func15, Tryd.ntmps15
  go_wp2
  go_loopw [5, 6] (fun v i wr => ∃ j : Nat, j ≤ 36 ∧ i = .int .i64 (35 - (j : Int)) ∧ v = .int .u64 (Dg.rt p third j : Nat) ∧ Below w.heap.size w wr) (fun _ i _ => (intOf i + 1).toNat)
  case atStart => exact ⟨0, by omega, rfl, rfl, Below.refl _ _⟩
  case round =>
    obtain ⟨j, hj, rfl, rfl, hb⟩ := hrel
    have b1 := bd.out j hj
    have HB := Lib.hid hb; clear hb
    by_cases hlt : j < 36
    · obtain ⟨b, hbj⟩ : ∃ b, 35 - j = b := ⟨_, rfl⟩
      have hs := stp.out j
      have hbb : (35 : Int) - (j : Int) = (b : Int) := by omega
      have hb35 : b ≤ 35 := by omega
      rw [hbb]
      rw [hbj] at hs
      rw [show 36 - j = b + 1 from by omega, Nat.pow_succ] at b1
      obtain ⟨k, hk⟩ : ∃ k, 2 ^ b = k := ⟨_, rfl⟩
      rw [hk] at hs b1
      generalize Dg.rt p third j = x at *
      have hy : x + k < 137438953472 := by omega
      have hpi : (2 : Int) ^ b = (k : Int) := by rw [← hk]; simp
      have sk : (1 : Int) * 2 ^ b % 18446744073709551616 = (k : Int) := by rw [hpi]; omega
      have sk2 : (2 : Int) ^ b % 18446744073709551616 = (k : Int) := by rw [Int.one_mul] at sk; exact sk
      cases third with
      | true =>
        have cc : Hid (∀ W, Calls Tryd.prog 23 #[.int .u64 ((x : Int) + (k : Int)), .int .i64 p] W fun e w' => e = .returned (.bool (Dg.cu (x + k) p)) ∧ Below W.heap.size W w') := fun W => cube_any (x + k) p W hy hp
        simp only [if_true] at hs
        generalize Dg.cu (x + k) p = r at *
        have HS := Lib.hid hs; clear hs
        cases r with
        | true =>
          go_wp2_with (go_at_call 23; (with_reducible refine (cc.out _).mono ?_); rintro e w1 ⟨rfl, hb1⟩; have HB1 := Lib.hid (bthen HB.out hb1); clear hb1)
          go_roundw
          case rel => exact ⟨j + 1, by omega, by go_num, by rw [HS.out]; rfl, HB1.out⟩
          case measure => simp [intOf]
        | false =>
          go_wp2_with (go_at_call 23; (with_reducible refine (cc.out _).mono ?_); rintro e w1 ⟨rfl, hb1⟩; have HB1 := Lib.hid (bthen HB.out hb1); clear hb1)
          go_roundw
          case rel => exact ⟨j + 1, by omega, by go_num, by rw [HS.out]; rfl, HB1.out⟩
          case measure => simp [intOf]
      | false =>
        have cc : Hid (∀ W, Calls Tryd.prog 24 #[.int .u64 ((x : Int) + (k : Int)), .int .i64 p] W fun e w' => e = .returned (.bool (Dg.sq (x + k) p)) ∧ Below W.heap.size W w') := fun W => square_any (x + k) p W (by omega) hp
        simp only [Bool.false_eq_true, if_false] at hs
        generalize Dg.sq (x + k) p = r at *
        have HS := Lib.hid hs; clear hs
        cases r with
        | true =>
          go_wp2_with (go_at_call 24; (with_reducible refine (cc.out _).mono ?_); rintro e w1 ⟨rfl, hb1⟩; have HB1 := Lib.hid (bthen HB.out hb1); clear hb1)
          go_roundw
          case rel => exact ⟨j + 1, by omega, by go_num, by rw [HS.out]; rfl, HB1.out⟩
          case measure => simp [intOf]
        | false =>
          go_wp2_with (go_at_call 24; (with_reducible refine (cc.out _).mono ?_); rintro e w1 ⟨rfl, hb1⟩; have HB1 := Lib.hid (bthen HB.out hb1); clear hb1)
          go_roundw
          case rel => exact ⟨j + 1, by omega, by go_num, by rw [HS.out]; rfl, HB1.out⟩
          case measure => simp [intOf]
    · have e : j = 36 := by omega
      subst e
      go_wp2
      go_ret
      exact ⟨by rw [R.out]; rfl, HB.out⟩
namespace Dg
theorem pl_step (many n : Nat) : pl many (n + 1) = if 2 ≤ n ∧ (pl many n).length < many ∧ div n (pl many n) = true then pl many n ++ [n] else pl many n := rfl
theorem pl_len (many : Nat) : ∀ n, (pl many n).length ≤ many
  | 0 => Nat.zero_le _
  | n + 1 => by
    have ih := pl_len many n
    rw [pl_step]
    split
    · rw [List.length_append]; simp; omega
    · exact ih
theorem pl_ge (many : Nat) : ∀ n, ∀ q ∈ pl many n, 2 ≤ q ∧ q < n
  | 0, _, h => by cases h
  | n + 1, q, h => by
    have ih := pl_ge many n
    rw [pl_step] at h
    split at h
    · rcases List.mem_append.1 h with h | h
      · have := ih q h; omega
      · have : q = n := by simpa using h
        omega
    · have := ih q h; omega
theorem pl_full {many n : Nat} (h : (pl many n).length = many) : ∀ k, pl many (n + k) = pl many n
  | 0 => rfl
  | k + 1 => by
    rw [← Nat.add_assoc, pl_step, pl_full h k, if_neg (by omega)]
theorem div_snoc (n : Nat) (l : List Nat) (i q : Nat) (h : l[i]? = some q) : div n (l.take (i + 1)) = (div n (l.take i) && (n % q != 0)) := by
  unfold div
  rw [List.take_add_one, h, List.all_append]
  simp
def vi (q : Nat) : Value := .int .i64 q
end Dg
theorem info_int : (Tryd.prog.info? 3).map (fun i => (i.zero, i.size, i.bytes)) = some (some (.int .i64 0), 1, 8) := by kernel_rfl
theorem vi_cells (xs : List Nat) : ∀ u ∈ xs.map Dg.vi, u.oneCell' = true := by
  intro u hu
  obtain ⟨x, _, rfl⟩ := List.mem_map.1 hu
  rfl
theorem own_slice {w : World} {base n size : Nat} {e : TypeId} {v : Value} {xs : List Value} (h : w.ownsRow base e size v n xs) :
    (v = .slice none 0 0 ∧ n = 0) ∨ ∃ g c, v = .slice (some ⟨g, 0, none⟩) n c ∧ base ≤ g ∧ g < w.heap.size ∧ n ≤ c ∧ c ≤ maxLen := by
  rcases h.2 with ⟨rfl, h0⟩ | ⟨g, cap, cur, rfl, hb, hg, h1, h2, _⟩
  · exact .inl ⟨rfl, h0⟩
  · exact .inr ⟨g, cap, rfl, hb, (World.ownsRow.lt h g rfl).2, h1, h2⟩
theorem own_slice' {w : World} {base n size : Nat} {e : TypeId} {v : Value} {xs : List Value} (h : w.ownsRow base e size v n xs) : ∃ A c, v = .slice A n c ∧ n ≤ c ∧ c ≤ maxLen := by
  rcases own_slice h with ⟨rfl, rfl⟩ | ⟨g, c, rfl, _, _, h1, h2⟩
  · exact ⟨none, 0, rfl, Nat.le_refl _, Nat.zero_le _⟩
  · exact ⟨_, c, rfl, h1, h2⟩
theorem own_at {w : World} {base n : Nat} {e : TypeId} {v : Value} {xs : List Value} (h : w.ownsRow base e 1 v n xs) {j : Nat} (hj : j < n) : ∃ g c x, v = .slice (some ⟨g, 0, none⟩) n c ∧ xs[j]? = some x ∧ w.cell? ⟨g, j, none⟩ = some x := by
  have hl := h.1
  rcases own_slice h with ⟨_, h0⟩ | ⟨g, c, rfl, _⟩
  · omega
  · have hx : xs[j]? = some xs[j] := List.getElem?_eq_getElem (by omega)
    exact ⟨g, c, xs[j], rfl, hx, by rw [World.ownsRow.cellAt h j (by omega), hx]⟩
theorem vi_at {l : List Nat} {j : Nat} {x : Value} (h : (l.map Dg.vi)[j]? = some x) : ∃ q, l[j]? = some q ∧ x = .int .i64 q := by
  rw [List.getElem?_map] at h
  cases hq : l[j]? with
  | none => rw [hq] at h; cases h
  | some q => rw [hq] at h; exact ⟨q, rfl, (Option.some.inj h).symm⟩
theorem primes_any (w : World) :
    Calls Tryd.prog 14 #[.int .i64 64] w fun e w' => ∃ v, e = .returned v ∧ w'.ownsRow w.heap.size 3 1 v 64 (Dg.P64.map Dg.vi) ∧ Below w.heap.size w w' := by
  obtain ⟨i0, hi, hz0, hz1, hz2⟩ := info_parts info_int
  have stp := Lib.hid (Dg.pl_step 64)
  have fin : Hid (∀ n, n ≤ 400 → ¬ (n < 400 ∧ (Dg.pl 64 n).length < 64) → Dg.pl 64 n = Dg.P64) := fun n hn h => by
    by_cases h4 : n = 400
    · rw [h4]; exact Dg.pl_400
    · have hl : (Dg.pl 64 n).length = 64 := by have := Dg.pl_len 64 n; omega
      have := Dg.pl_full hl (400 - n)
      rw [show n + (400 - n) = 400 from by omega] at this
      rw [← this]; exact Dg.pl_400
  go_enter Tryd.func14, Tryd.ntmps14
  go_wp2
  go_loopw [3, 4] (fun v i wr => ∃ n : Nat, 2 ≤ n ∧ n ≤ 400 ∧ i = .int .i64 n ∧ wr.ownsRow w.heap.size 3 1 v (Dg.pl 64 n).length ((Dg.pl 64 n).map Dg.vi) ∧ Below w.heap.size w wr) (fun _ i _ => (400 - intOf i).toNat)
  case atStart => exact ⟨2, by omega, by omega, rfl, World.ownsRow_nil _ _ _ _, Below.refl _ _⟩
  case round =>
    obtain ⟨n, h2, h4, rfl, ho, hb⟩ := hrel
    have hs := stp.out n
    have hlen := Dg.pl_len 64 n
    have hge := Lib.hid (Dg.pl_ge 64 n)
    have hfin := fin.out n h4
    generalize Dg.pl 64 n = l at *
    obtain ⟨m, hm⟩ : ∃ m, l.length = m := ⟨_, rfl⟩
    rw [hm] at ho hlen hfin hs
    have HO := Lib.hid ho; have HB := Lib.hid hb; have HM := Lib.hid hm
    obtain ⟨A, c, rfl, hmc, hcm⟩ := own_slice' ho
    clear ho hb hm
    by_cases hin : n < 400 ∧ m < 64
    · obtain ⟨q1, q2⟩ := hin
      have q1' : (n : Int) < 400 := by omega
      have q2' : (m : Int) < 64 := by omega
      clear hfin
      go_wp2
      go_loopw [5, 6] (fun v i wq => ∃ j : Nat, j ≤ m ∧ i = .int .i64 j ∧ v = .bool (Dg.div n (l.take j)) ∧ wr = wq) (fun _ i _ => m - (intOf i).toNat)
      case atStart => exact ⟨0, by omega, rfl, rfl, rfl⟩
      case round =>
        obtain ⟨j, hj, rfl, rfl, rfl⟩ := hrel
        by_cases hjm : j < m
        · obtain ⟨g, c', x, e1, e2, hc⟩ := own_at HO.out hjm
          cases e1
          obtain ⟨q, hq, rfl⟩ := vi_at e2
          have hq2 := hge.out q (List.mem_of_getElem? hq)
          have D := Lib.hid (Dg.div_snoc n l j q hq)
          have t1 : (n : Int).tmod (q : Int) = ((n % q : Nat) : Int) := by rw [Int.tmod_eq_emod_of_nonneg (by omega)]; simp
          obtain ⟨r, hr⟩ : ∃ r, n % q = r := ⟨_, rfl⟩
          rw [hr] at t1 D
          have hrq : r < q := by rw [← hr]; exact Nat.mod_lt _ (by omega)
          have gq : ((q : Int) == 0) = false := by simp; omega
          have gq2 : ¬ (q : Int) = 0 := by omega
          clear e2 hq hr
          generalize Dg.div n (l.take j) = b at *
          cases b
          · go_wp2
            go_roundw
            case rel => exact ⟨j + 1, by omega, by go_num, by rw [D.out]; rfl, trivial⟩
            case measure => simp [intOf]; omega
          · by_cases hr0 : r = 0
            · have g1 : ((r : Int) != 0) = false := by simp; omega
              have D2 : Hid (Dg.div n (l.take (j + 1)) = false) := by show _ = _; rw [D.out, hr0]; rfl
              clear hr0
              go_wp2
              go_roundw
              case rel => exact ⟨j + 1, by omega, by go_num, by rw [D2.out], trivial⟩
              case measure => simp [intOf]; omega
            · have g1 : ((r : Int) != 0) = true := by simp; omega
              have D2 : Hid (Dg.div n (l.take (j + 1)) = true) := by show _ = _; rw [D.out]; simp [hr0]
              clear hr0
              go_wp2
              go_roundw
              case rel => exact ⟨j + 1, by omega, by go_num, by rw [D2.out], trivial⟩
              case measure => simp [intOf]; omega
        · have e : j = m := by omega
          subst e
          rw [List.take_of_length_le (by rw [HM.out]; exact Nat.le_refl _)]
          cases hd : Dg.div n l with
          | true =>
            have hs2 : Dg.pl 64 (n + 1) = l ++ [n] := by rw [hs, if_pos ⟨h2, q2, hd⟩]
            have HS := Lib.hid hs2
            clear hs hs2 hd
            go_wp2_with (at_builtin; obtain ⟨v2, w2, hrun, hown, hgrow, _⟩ := run_append_own (P := Tryd.prog) (w := wr.alloc (.cells #[.int .i64 n] 3)) w.heap.size 45 45 3 i0 (.int .i64 0) 1 8 Tryd.underlying45 hi hz0 hz1 hz2 rfl (by decide) _ j _ (HO.out.alloc _) ⟨wr.heap.size, 0, none⟩ 1 1 [.int .i64 n] rfl (World.news_of_block (heap_alloc_new _ _)) (one_one rfl) (by unfold maxLen; omega) (by omega) (by have := HB.out.size; simp; omega)
                         refine Lib.wpList_append_run _ rfl _ _ 45 45 rfl _ _ rfl rfl _ _ hrun ?_
                         have hb2 := below_app (HB.out.alloc HB.out.size _) (Nat.le_refl _) (HO.out.alloc (.cells #[.int .i64 n] 3)) hgrow
                         have HB2 := Lib.hid hb2; have HO2 := Lib.hid hown
                         clear hrun hown hgrow hb2)
            go_roundw
            case rel => exact ⟨n + 1, by omega, by omega, by go_num, by rw [HS.out, List.length_append, HM.out, List.map_append]; exact HO2.out, HB2.out⟩
            case measure => simp [intOf]; omega
          | false =>
            have hs2 : Dg.pl 64 (n + 1) = l := by rw [hs, if_neg (by rw [hd]; simp)]
            have HS := Lib.hid hs2
            clear hs hs2 hd
            go_wp2
            go_roundw
            case rel => exact ⟨n + 1, by omega, by omega, by go_num, by rw [HS.out, HM.out]; exact HO.out, HB.out⟩
            case measure => simp [intOf]; omega
    · obtain rfl := hfin hin
      have h64 : m = 64 := by rw [← HM.out]; rfl
      subst h64
      by_cases h400 : n = 400
      · subst h400
        clear hs hin
        go_wp2
        go_ret
        exact ⟨_, rfl, HO.out, HB.out⟩
      · have q1' : (n : Int) < 400 := by omega
        clear hs hin
        go_wp2
        go_ret
        exact ⟨_, rfl, HO.out, HB.out⟩
end Go.Proofs.YtfggknplekiaoaaDoor
