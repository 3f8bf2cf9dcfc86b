/- LAYER 19, the document's answers, first part: number, of, Rise. -/
import Derived.Test.YtjiafpmcibokbaaM19
import Derived.Test.YtjiafpmcibokbaaC11e
namespace Go.Proofs.Ytjiafpmcibokbaa
open Go Go.RowKit
set_option maxHeartbeats 2000000
set_option maxRecDepth 100000
set_option linter.unusedVariables false
theorem refof_any19 (A : Option Addr) (n c : Nat) (xs : List Int) (w : World) (ha : RB w w.heap.size A n xs) (hy : Byt xs) (hn : n ≤ 8) :
    Calls Try.prog 40 #[.slice A n c] w fun e w' => e = .returned (.int .u64 (Fm.ofL xs)) ∧ w = w' := by
  have hl : xs.length = n := ha.1
  go_enter Try.func40, Try.ntmps40
  go_wp2
  go_loop [3, 4] (fun z i => ∃ j : Nat, j ≤ n ∧ i = .int .i64 j ∧ z = .int .u64 (Fm.ofL (xs.take j))) (fun _ i => n - (intOf i).toNat)
  case atStart => exact ⟨0, Nat.zero_le _, rfl, rfl⟩
  case round =>
    obtain ⟨j, hj, rfl, rfl⟩ := hrel
    by_cases h : j < n
    · have h' : (j : Int) < n := by omega
      obtain ⟨b, o, rfl, hbB, hc⟩ := ha.at_ h
      have e1 : Hid (Fm.ofL (xs.take (j + 1)) = 256 * Fm.ofL (xs.take j) + (xs.getD j 0).toNat) := by
        have := take_snocI xs j (by omega)
        show _ = _
        rw [this, Fm.ofL_snoc]
      have hlt := Fm.ofL_lt j (xs.take j) (Ck.Byt.take hy j) (by rw [List.length_take]; omega)
      have hb2 := hy j
      generalize hz : Fm.ofL (xs.take j) = z at *
      obtain ⟨x, hx⟩ : ∃ x : Nat, xs.getD j 0 = (x : Int) := ⟨(xs.getD j 0).toNat, by omega⟩
      rw [hx] at hc hb2 e1
      have z8 : z < 72057594037927936 := Nat.lt_of_lt_of_le hlt (Nat.le_trans (Nat.pow_le_pow_right (by decide) (show j ≤ 7 by omega)) (by decide))
      clear hlt hz hx
      go_wp2
      go_round
      case rel => exact ⟨j + 1, by omega, by go_num, by rw [e1.out]; simp⟩
      case measure => simp [intOf]; omega
    · obtain rfl : j = n := by omega
      rw [show xs.take j = xs from List.take_of_length_le (by omega)]
      go_wp2
      go_ret
      exact ⟨rfl, rfl⟩
theorem refnumber_any (n W : Nat) (w : World) (hn : n < 18446744073709551616) (hW : 1 ≤ W) (hW8 : W ≤ 8) :
    Calls Try.prog 29 #[.int .u64 n, .int .i64 W] w fun e w' => ∃ v, e = .returned v ∧ OBn w' w.heap.size 5 v W (Fm.num W n) ∧ Below w.heap.size w w' := by
  obtain ⟨i0, hi, hz0, hz1, hz2⟩ := info_parts info_u8
  go_enter Try.func29, Try.ntmps29
  go_wp2_with (at_make; refine wpList_make_full _ rfl _ _ 28 rfl w.heap.size 5 i0 _ 1 Try.underlying28 hi hz0 hz1 .i64 .i64 _ _ W rfl rfl rfl rfl (by rw [hz2]; omega) (by unfold maxLen; omega) (Nat.le_refl _) ?_; intro w1 hown hgrow)
  have ho1 : OBn w1 w.heap.size 5 (.slice (some ⟨w.heap.size, 0, none⟩) W W) W (Fm.part W 0 n) := by rw [Fm.part_none]; exact OBn.made hown
  have hb1 : Below w.heap.size w w1 := (Below.refl _ _).grown hgrow (Nat.le_refl _) (by simp)
  clear hown hgrow
  go_loopw [0, 6] (fun q i wr => ∃ t : Nat, t ≤ W ∧ q = .int .u64 ((n / 256 ^ t : Nat) : Int) ∧ i = .int .i64 ((W : Int) - t - 1) ∧ OBn wr w.heap.size 5 (.slice (some ⟨w.heap.size, 0, none⟩) W W) W (Fm.part W t n) ∧ Below w.heap.size w wr) (fun _ i _ => (intOf i + 1).toNat)
  case atStart => exact ⟨0, by omega, by simp, by simp, ho1, hb1⟩
  case round =>
    obtain ⟨t, ht, rfl, rfl, ho, hb⟩ := hrel
    by_cases h : t < W
    · obtain ⟨m, hm⟩ : ∃ m : Nat, W - t - 1 = m := ⟨_, rfl⟩
      have hm' : (W : Int) - t - 1 = (m : Int) := by omega
      have hlt : n / 256 ^ t < 18446744073709551616 := Nat.lt_of_le_of_lt (Nat.div_le_self _ _) hn
      have hd : n / 256 ^ (t + 1) = n / 256 ^ t / 256 := by rw [Nat.pow_succ, Nat.div_div_eq_div_mul]
      have hc := ho.cell m (by omega)
      have hf := ho.free m
      have hs := ho.stored m ((n / 256 ^ t % 256 : Nat) : Int)
      rw [← hm, Fm.part_set h, hm] at hs
      have HS := Lib.hid hs
      have HD := Lib.hid hd
      clear hs hd
      rw [hm']
      generalize n / 256 ^ t = q at *
      have hmW : (m : Int) < W := by omega
      have hmt := Lib.hid (show (m : Int) - 1 = (W : Int) - ((t + 1 : Nat) : Int) - 1 by omega)
      clear hm hm'
      go_wp2
      go_roundw
      case rel => exact ⟨t + 1, by omega, by rw [HD.out]; rfl, by rw [hmt.out], by first | exact HS.out | (simp at HS ⊢; exact HS.out), hb.setCell (Nat.le_refl _) _⟩
      case measure => simp [intOf]
    · obtain rfl : t = W := by omega
      rw [Fm.part_all] at ho
      rw [show (t : Int) - t - 1 = -1 by omega]
      go_wp2
      go_ret
      exact ⟨_, rfl, ho, hb⟩
/-- A slice of ranges, in a block below B. -/
def RG (w : World) (B : Nat) (A : Option Addr) (m : Nat) (l : List (Nat × Nat)) : Prop :=
  (l.length = m ∧ ∀ p ∈ l, p.1 < 18446744073709551616 ∧ p.2 < 18446744073709551616) ∧ (0 < m → ∃ b o, A = some ⟨b, o, none⟩ ∧ b < B ∧ ∀ (j : Nat) (p : Nat × Nat), l[j]? = some p → w.cell? ⟨b, o + j * 2, none⟩ = some (.int .u64 (p.1 : Int)) ∧ w.cell? ⟨b, o + j * 2 + 1, none⟩ = some (.int .u64 (p.2 : Int)))
section
variable {w w' : World} {B B' : Nat} {A : Option Addr} {m : Nat} {l : List (Nat × Nat)}
theorem RG.below (h : RG w B A m l) (hb : Below B w w') : RG w' B A m l :=
  ⟨h.1, fun hm => by
    obtain ⟨b, o, e, hB, hc⟩ := h.2 hm
    exact ⟨b, o, e, hB, fun j p hj => by rw [hb.cell (p := ⟨b, o + j * 2, none⟩) hB, hb.cell (p := ⟨b, o + j * 2 + 1, none⟩) hB]; exact hc j p hj⟩⟩
theorem RG.more (h : RG w B A m l) (hB : B ≤ B') : RG w B' A m l :=
  ⟨h.1, fun hm => by
    obtain ⟨b, o, e, hb, hc⟩ := h.2 hm
    exact ⟨b, o, e, Nat.lt_of_lt_of_le hb hB, hc⟩⟩
theorem RG.at_ (h : RG w B A m l) {j : Nat} (hj : j < m) : ∃ b o p, A = some ⟨b, o, none⟩ ∧ b < B ∧ l[j]? = some p ∧ p.1 < 18446744073709551616 ∧ p.2 < 18446744073709551616 ∧ w.cell? ⟨b, o + j * 2, none⟩ = some (.int .u64 (p.1 : Int)) ∧ w.cell? ⟨b, o + j * 2 + 1, none⟩ = some (.int .u64 (p.2 : Int)) := by
  obtain ⟨b, o, e, hb, hc⟩ := h.2 (by omega)
  have hl : j < l.length := by rw [h.1.1]; exact hj
  have hp : l[j]? = some l[j] := List.getElem?_eq_getElem hl
  exact ⟨b, o, l[j], e, hb, hp, (h.1.2 _ (List.getElem_mem hl)).1, (h.1.2 _ (List.getElem_mem hl)).2, (hc j _ hp).1, (hc j _ hp).2⟩
end
theorem refrise_any (off : Nat) (A : Option Addr) (m c : Nat) (l : List (Nat × Nat)) (w : World) (h : RG w w.heap.size A m l) (hm : m ≤ 1000000) :
    Calls Try.prog 17 #[.int .u64 off, .slice A m c] w fun e w' => e = .returned (.bool (Fm.rise off l)) ∧ ∃ n, w' = w.drewN n := by
  obtain ⟨Z, hZ⟩ : ∃ Z, Fm.rise off l = Z := ⟨_, rfl⟩
  have HL := Lib.hid h.1.1
  rw [hZ]
  have HZ := Lib.hid hZ
  clear hZ
  go_enter Try.func17, Try.ntmps17
  go_wp2
  go_loopw [0, 5] (fun z i W => ∃ j o : Nat, j ≤ m ∧ i = .int .i64 j ∧ z = .int .u64 o ∧ Hid (Fm.rise o (l.drop j) = Z) ∧ ∃ n, W = w.drewN n) (fun _ i _ => m - (intOf i).toNat)
  case atStart => exact ⟨0, off, Nat.zero_le _, rfl, rfl, HZ.out, 0, rfl⟩
  case round =>
    obtain ⟨j, o, hj, rfl, rfl, HR, nw, rfl⟩ := hrel
    by_cases hlt : j < m
    · have hlt' : (j : Int) < m := by omega
      obtain ⟨b, oo, p, rfl, hbB, hp, p1, p2, hc1, hc2⟩ := h.at_ hlt
      have hd := HR.out
      have hdr : l.drop j = p :: l.drop (j + 1) := by rw [List.drop_eq_getElem_cons (by have := HL.out; omega)]; congr 1; rw [List.getElem?_eq_getElem (by have := HL.out; omega)] at hp; exact Option.some.inj hp
      rw [hdr] at hd
      obtain ⟨x, y⟩ := p
      unfold Fm.rise at hd
      simp only at hd hc1 hc2 p1 p2
      have HD := Lib.hid hd
      clear hd hdr hp
      by_cases hx : x ≤ o
      · have hf : Z = false := by rw [← HD.out, if_pos (.inl hx)]
        subst hf
        have hx' : (x : Int) ≤ o := by omega
        clear HD
        go_wp2
        go_quiet (fail)
        go_wp2
        go_ret
        exact ⟨rfl, by first | exact ⟨_, rfl⟩ | (rw [World.drewN_drewN]; exact ⟨_, rfl⟩)⟩
      · have hx' : ¬ (x : Int) ≤ o := by omega
        by_cases hy : y ≤ x
        · have hf : Z = false := by rw [← HD.out, if_pos (.inr hy)]
          subst hf
          have hy' : (y : Int) ≤ x := by omega
          clear HD
          go_wp2
          go_quiet (fail)
          go_wp2
          go_ret
          exact ⟨rfl, by first | exact ⟨_, rfl⟩ | (rw [World.drewN_drewN]; exact ⟨_, rfl⟩)⟩
        · have hf := HD.out
          rw [if_neg (by omega)] at hf
          have HF := Lib.hid hf
          have hy' : ¬ (y : Int) ≤ x := by omega
          clear HD hf
          go_wp2
          go_quiet (fail)
          go_wp2
          go_roundw
          case rel => exact ⟨j + 1, y, by omega, by go_num, rfl, HF.out, by first | exact ⟨_, rfl⟩ | (rw [World.drewN_drewN]; exact ⟨_, rfl⟩)⟩
          case measure => simp [intOf]; omega
    · obtain rfl : j = m := by omega
      have hz := HR.out
      rw [List.drop_eq_nil_of_le (by rw [HL.out]; exact Nat.le_refl _)] at hz
      go_wp2
      go_ret
      exact ⟨by rw [← hz]; rfl, nw, rfl⟩
end Go.Proofs.Ytjiafpmcibokbaa
