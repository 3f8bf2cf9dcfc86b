/- WALKS OF LAYER 14, FOURTH PART: keep, each. -/
import Derived.Test.YthgbncpiehcghaaGreatDoorGa2
import Derived.StillTailTactics
import Derived.Test.YthgbncpiehcghaaGreatDoorGu1
namespace Go.Proofs.YthgbncpiehcghaaGreatDoor
set_option linter.unusedVariables false
open Go Go.RowKit Go.Maps
set_option maxRecDepth 100000
set_option maxHeartbeats 4000000
open Nt (Tr Nd WF Ps Path at_ cnt used Dd Dk ap)
section
variable {w0 : Bs} {w : World} {db dt vt K : Nat} {D V : Tr} {v : Value} {l : List Dd} {sy fu : Int} {ad mb ad' mb' : Nat → Nat}
theorem ap_erT {T : Tr} {y : Dd} (hT : T.er = T) : (ap T y).1.er = (ap T y.er).1 ∧ (ap T y).2 = (ap T y.er).2 := by
  have h := Nt.ap_er T y
  rw [hT] at h
  rw [h]
  exact ⟨rfl, rfl⟩
theorem keep14_any (h : DM w0 w db dt vt D V v l sy fu K ad mb ad' mb') (hW : WF D K) (hK : K ≤ 100000) (hE : D.er = D) (y : Dd) (hy : DOk w y) :
    Calls Tryz.prog 119 #[.pointer (some ⟨db, 0, none⟩), .agg (DdC y)] w fun e w' => e = .returned (.tuple #[]) ∧ KeepX TreeObj w w' ∧ ∃ ad2 mb2, DM w0 w' db dt vt (ap D y.er).1 V v l sy fu (K + 301) ad2 mb2 ad' mb' := by
  have hb := below_new w (.cells (DdC y) 74)
  obtain ⟨W1, hW1⟩ : ∃ W, w.alloc (.cells (DdC y) 74) = W := ⟨_, rfl⟩
  have hbx : BX W1 w.heap.size 74 (DdC y) := by rw [← hW1]; exact BX.new _ _ _
  rw [hW1] at hb
  have h1 := h.later (hb.drew)
  have hy1 := hy.below hb.drew
  have ka := Lib.hid (apply_done hW hK h1.repD y (by have := hy.small; omega) (by have := hy.small; omega) hy1.rb (by have := hy.small; omega))
  have HD := Lib.hid (fun W e (hd : Done (Fm D dt ad mb) K W1.drew W dt (ap D y) e) => h1.durable hd)
  have HKB := Lib.hid (show KeepX TreeObj w W1.drew from KeepX.ofBelow hb.drew)
  have HAP := Lib.hid (ap_erT (y := y) hE)
  obtain ⟨kd, p, q, a, b, c, d, A, n, k, xs⟩ := y
  have c0 : W1.cell? ⟨db, 0, none⟩ = some (.pointer (some ⟨dt, 0, none⟩)) := (h.box.later hb).cell rfl
  have z0 : W1.cell? ⟨w.heap.size, 0, none⟩ = some (.int .i64 kd) := hbx.cell rfl
  have z1 : W1.cell? ⟨w.heap.size, 1, none⟩ = some (.string p) := hbx.cell rfl
  have z2 : W1.cell? ⟨w.heap.size, 2, none⟩ = some (.string q) := hbx.cell rfl
  have z3 : W1.cell? ⟨w.heap.size, 3, none⟩ = some (.int .i64 a) := hbx.cell rfl
  have z4 : W1.cell? ⟨w.heap.size, 4, none⟩ = some (.int .i64 b) := hbx.cell rfl
  have z5 : W1.cell? ⟨w.heap.size, 5, none⟩ = some (.int .i64 c) := hbx.cell rfl
  have z6 : W1.cell? ⟨w.heap.size, 6, none⟩ = some (.int .i64 d) := hbx.cell rfl
  have z7 : W1.cell? ⟨w.heap.size, 7, none⟩ = some (.slice A n k) := hbx.cell rfl
  clear h hy hb h1 hy1 hW hbx
  go_enter Tryz.func119, Tryz.ntmps119
  go_wp2
  go_still_tail 5, (by kernel_rfl)
  change wpList _ _ _ _ _ W1.drew
  go_wp2_with (go_at_call 81; refine ka.out.mono ?_; rintro e w2 hd2; obtain ⟨rfl, hx2, ad2, mb2, hm2⟩ := HD.out _ _ hd2)
  refine bodyPost_end (v := .tuple #[]) (by simp [results, Tryz.f119, go_sem]) rfl ?_
  rw [HAP.out.1] at hm2
  exact ⟨rfl, HKB.out.trans hx2, ad2, mb2, hm2⟩
abbrev keepV (db : Nat) : Value := .func (.func 119) #[.pointer (some ⟨db, 0, none⟩)] #[]
theorem all_take (T : Tr) {l : List Dd} {j : Nat} {y : Dd} (h : l[j]? = some y) : Nt.all T ((l.take (j + 1)).map Dd.er) = (ap (Nt.all T ((l.take j).map Dd.er)) y.er).1 := by
  rw [List.take_add_one, h, Option.toList_some, List.map_append, Nt.all_app]
  rfl
theorem er_er (y : Dd) : y.er.er = y.er := rfl
theorem each14_any (h : DM w0 w db dt vt D V v l sy fu K ad mb ad' mb') (hW : WF D K) (hE : D.er = D) (A : Option Addr) (n c : Nat) (ls : List Dd) (hl : DL w A n ls) (hc : n ≤ c ∧ c ≤ maxLen) (hK : K + 301 * n ≤ 100000) :
    Calls Tryz.prog 118 #[.slice A n c, keepV db] w fun e w' => e = .returned (.tuple #[]) ∧ KeepX TreeObj w w' ∧ ∃ ad2 mb2, DM w0 w' db dt vt (Nt.all D (ls.map Dd.er)) V v l sy fu (K + 301 * n) ad2 mb2 ad' mb' := by
  have hll := hl.1
  have HL := Lib.hid hl
  have H := Lib.hid h
  have HW := Lib.hid hW
  have HE := Lib.hid hE
  clear h hl hW hE
  go_enter Tryz.func118, Tryz.ntmps118
  go_wp2
  go_loopw [8] (fun i W => ∃ (j : Nat) (ad2 mb2 : Nat → Nat), j ≤ n ∧ i = .int .i64 j ∧ Hid (DM w0 W db dt vt (Nt.all D ((ls.take j).map Dd.er)) V v l sy fu (K + 301 * j) ad2 mb2 ad' mb') ∧ Hid (KeepX TreeObj w W)) (fun i _ => n - (intOf i).toNat)
  case atStart => exact ⟨0, ad, mb, Nat.zero_le _, rfl, H.out, KeepX.refl _ _⟩
  case round =>
    obtain ⟨j, ad2, mb2, hj, rfl, HM, HX⟩ := hrel
    by_cases hlt : j < n
    · have hlt' : (j : Int) < n := by omega
      obtain ⟨b, o, y, rfl, hy, hok, hcs⟩ := (HL.out.kept HX.out tree_u8 fun _ _ => deed_tree).at_ hlt
      have hb := below_new wr (.cells (DdC y) 74)
      have hbx := BX.new wr 74 (DdC y)
      have hWT : WF (Nt.all D ((ls.take j).map Dd.er)) (K + 301 * j) := by
        have h1 := Nt.WF.all (K := K) (l := (ls.take j).map Dd.er) HW.out fun z hz => by
          obtain ⟨x, hx, rfl⟩ := List.mem_map.1 hz
          exact (HL.out.2.2 x (List.mem_of_mem_take hx)).rb.1
        rw [List.length_map, List.length_take, hll, Nat.min_eq_left (by omega)] at h1
        exact h1
      have hET : (Nt.all D ((ls.take j).map Dd.er)).er = Nt.all D ((ls.take j).map Dd.er) := Nt.er_all HE.out fun z hz => by
        obtain ⟨x, hx, rfl⟩ := List.mem_map.1 hz
        rfl
      have kk := Lib.hid (keep14_any (HM.out.later hb) hWT (by omega) hET y (hok.below hb))
      have HST := Lib.hid (all_take D hy)
      have HXB := Lib.hid (HX.out.trans (KeepX.ofBelow hb))
      obtain ⟨kd, p, q, a, b', c', d, A', n', k', xs'⟩ := y
      have c0 : wr.cell? ⟨b, o + j * 8, none⟩ = some (.int .i64 kd) := hcs 0 _ rfl
      have c1 : wr.cell? ⟨b, o + j * 8 + 1, none⟩ = some (.string p) := hcs 1 _ rfl
      have c2 : wr.cell? ⟨b, o + j * 8 + 2, none⟩ = some (.string q) := hcs 2 _ rfl
      have c3 : wr.cell? ⟨b, o + j * 8 + 3, none⟩ = some (.int .i64 a) := hcs 3 _ rfl
      have c4 : wr.cell? ⟨b, o + j * 8 + 4, none⟩ = some (.int .i64 b') := hcs 4 _ rfl
      have c5 : wr.cell? ⟨b, o + j * 8 + 5, none⟩ = some (.int .i64 c') := hcs 5 _ rfl
      have c6 : wr.cell? ⟨b, o + j * 8 + 6, none⟩ = some (.int .i64 d) := hcs 6 _ rfl
      have c7 : wr.cell? ⟨b, o + j * 8 + 7, none⟩ = some (.slice A' n' k') := hcs 7 _ rfl
      clear hcs hy hok hb hWT hET hbx
      go_wp2_with (go_at_call 119; refine kk.out.mono ?_; rintro e w2 ⟨rfl, hx2, ad3, mb3, hm2⟩)
      rw [← HST.out] at hm2
      go_roundw
      case rel => exact ⟨j + 1, ad3, mb3, by omega, by go_num, by rw [show K + 301 * (j + 1) = K + 301 * j + 301 from by omega]; exact hm2, HXB.out.trans hx2⟩
      case measure => simp [intOf]; omega
    · have hlt' : ¬ (j : Int) < n := by omega
      obtain rfl : j = n := by omega
      go_wp2
      refine bodyPost_end (v := .tuple #[]) (by simp [results, Tryz.f118, go_sem]) rfl ?_
      have hm := HM.out
      rw [List.take_of_length_le (by omega)] at hm
      exact ⟨rfl, HX.out, ad2, mb2, hm⟩
end
end Go.Proofs.YthgbncpiehcghaaGreatDoor
/- WALKS OF LAYER 14, FIFTH PART: tear, New, View, Durable. -/
namespace Go.Proofs.YthgbncpiehcghaaGreatDoor
set_option linter.unusedVariables false
open Go Go.RowKit Go.Maps
set_option maxRecDepth 100000
set_option maxHeartbeats 4000000
open Nt (Tr Nd WF Ps Path at_ cnt used Dd Dk ap)
theorem DL.single {w : World} {g : Nat} {y : Dd} (h : BX w g 74 (DdC y)) (hd : DOk w y) : DL w (some ⟨g, 0, none⟩) 1 [y] := by
  refine ⟨rfl, fun _ => ⟨g, 0, rfl, ⟨_, _, h⟩, fun j z hz i u hu => ?_⟩, fun z hz => ?_⟩
  · match j, hz with
    | 0, hz =>
      obtain rfl : y = z := by simpa using hz
      rw [show 0 + 0 * 8 + i = i from by omega]
      exact h.cell hu
  · obtain rfl : z = y := by simpa using hz
    exact hd
theorem BX.new1 (w : World) (o : Obj) (T : TypeId) (cs : Array Value) : BX ((w.alloc o).alloc (.cells cs T)) (w.heap.size + 1) T cs := by
  have h := BX.new (w.alloc o) T cs
  rwa [show (w.alloc o).heap.size = w.heap.size + 1 from by simp] at h
theorem tear14_any (A : Option Addr) (n c : Nat) (ls : List Dd) (t : Int) (w : World) (hl : DL w A n ls) (hc : n ≤ c ∧ c ≤ maxLen) :
    Calls Tryz.prog 120 #[.slice A n c, .int .i64 t] w fun e w' => ∃ A' m c', e = .returned (.slice A' m c') ∧ ∃ ls', Hid (DL w' A' m ls' ∧ m ≤ c' ∧ c' ≤ maxLen ∧ ls'.map Dd.er = Nt.torn (ls.map Dd.er) t ∧ m ≤ 1 ∧ Below w.heap.size w w') := by
  have hll := hl.1
  by_cases h0 : n = 0
  · subst h0
    obtain rfl : ls = [] := List.eq_nil_of_length_eq_zero hll
    clear hl hll
    go_enter Tryz.func120, Tryz.ntmps120
    go_wp2
    go_ret
    exact ⟨none, 0, 0, rfl, [], DL.nil, Nat.le_refl _, by decide, rfl, Nat.zero_le _, Below.refl _ _⟩
  · obtain ⟨b, o, y, rfl, hy, hok, hcs⟩ := hl.at_ (j := 0) (by omega)
    obtain ⟨r, hr⟩ : ∃ r, ls = y :: r := by
      cases ls with
      | nil => simp at hy
      | cons z r =>
        have e : z = y := by simpa using hy
        exact ⟨r, by rw [e]⟩
    have hn0 : ((n : Int) == 0) = false := by simp [h0]
    have hn1 : (0 : Int) < n := by omega
    have hbx := BX.new w 74 (DdC y)
    have HB := Lib.hid (below_new w (.cells (DdC y) 74))
    have HOK := Lib.hid hok
    obtain ⟨kd, p, q, a, b', c', d, A', n', k', xs'⟩ := y
    have c0 : w.cell? ⟨b, o, none⟩ = some (.int .i64 kd) := by have := hcs 0 _ rfl; simpa using this
    have c1 : w.cell? ⟨b, o + 1, none⟩ = some (.string p) := by have := hcs 1 _ rfl; simpa using this
    have c2 : w.cell? ⟨b, o + 2, none⟩ = some (.string q) := by have := hcs 2 _ rfl; simpa using this
    have c3 : w.cell? ⟨b, o + 3, none⟩ = some (.int .i64 a) := by have := hcs 3 _ rfl; simpa using this
    have c4 : w.cell? ⟨b, o + 4, none⟩ = some (.int .i64 b') := by have := hcs 4 _ rfl; simpa using this
    have c5 : w.cell? ⟨b, o + 5, none⟩ = some (.int .i64 c') := by have := hcs 5 _ rfl; simpa using this
    have c6 : w.cell? ⟨b, o + 6, none⟩ = some (.int .i64 d) := by have := hcs 6 _ rfl; simpa using this
    have c7 : w.cell? ⟨b, o + 7, none⟩ = some (.slice A' n' k') := by have := hcs 7 _ rfl; simpa using this
    have hcap : n' ≤ k' ∧ k' ≤ 9223372036854775807 := hok.cap
    obtain ⟨m, hm⟩ : ∃ m : Int, min t (n' : Int) = m := ⟨_, rfl⟩
    have hmn : m ≤ n' := by omega
    have htorn : Nt.torn (ls.map Dd.er) t = if (kd = 2 ∨ kd = 5) ∧ 1 ≤ m then [Dd.er (Nt.Dd.some_ ⟨kd, p, q, a, b', c', d, A', n', k', xs'⟩ m.toNat)] else [] := by
      rw [hr, ← hm]
      rfl
    obtain ⟨LT, hLT⟩ : ∃ LT, Nt.torn (ls.map Dd.er) t = LT := ⟨_, rfl⟩
    rw [hLT] at htorn ⊢
    have HT := Lib.hid htorn
    clear htorn hr hy hcs hl hok hLT
    by_cases hk : kd = 2 ∨ kd = 5
    · by_cases h1 : m < 1
      · have HT2 : Hid (LT = []) := by
          show LT = []
          rw [HT.out, if_neg (by omega)]
        rcases hk with rfl | rfl
        · go_enter Tryz.func120, Tryz.ntmps120
          go_wp2
          go_ret
          exact ⟨none, 0, 0, rfl, [], DL.nil, Nat.le_refl _, by decide, HT2.out.symm, Nat.zero_le _, HB.out⟩
        · go_enter Tryz.func120, Tryz.ntmps120
          go_wp2
          go_ret
          exact ⟨none, 0, 0, rfl, [], DL.nil, Nat.le_refl _, by decide, HT2.out.symm, Nat.zero_le _, HB.out⟩
      · have HT2 : Hid (LT = [Dd.er (Nt.Dd.some_ ⟨kd, p, q, a, b', c', d, A', n', k', xs'⟩ m.toNat)]) := by
          show LT = _
          rw [HT.out, if_pos ⟨hk, by omega⟩]
        obtain ⟨m, rfl⟩ : ∃ j : Nat, m = j := ⟨m.toNat, by omega⟩
        have hmn' : m ≤ n' := by omega
        have hok2 : k' ≤ maxLen := HOK.out.cap.2
        rcases hk with rfl | rfl
        · have HB2 := Lib.hid (bthen (below_new w (.cells #[.int .i64 2, .string p, .string q, .int .i64 a, .int .i64 b', .int .i64 c', .int .i64 d, .slice A' m k'] 74)) (below_new _ (.cells #[.int .i64 2, .string p, .string q, .int .i64 a, .int .i64 b', .int .i64 c', .int .i64 d, .slice A' m k'] 74)))
          have HX2 := Lib.hid (BX.new1 w (.cells #[.int .i64 2, .string p, .string q, .int .i64 a, .int .i64 b', .int .i64 c', .int .i64 d, .slice A' m k'] 74) 74 #[.int .i64 2, .string p, .string q, .int .i64 a, .int .i64 b', .int .i64 c', .int .i64 d, .slice A' m k'])
          have HO2 : Hid (DOk ((w.alloc (.cells #[.int .i64 2, .string p, .string q, .int .i64 a, .int .i64 b', .int .i64 c', .int .i64 d, .slice A' m k'] 74)).alloc (.cells #[.int .i64 2, .string p, .string q, .int .i64 a, .int .i64 b', .int .i64 c', .int .i64 d, .slice A' m k'] 74)) (Nt.Dd.some_ ⟨2, p, q, a, b', c', d, A', n', k', xs'⟩ m)) :=
            ⟨(HOK.out.rbt.pre hmn').below HB2.out, ⟨by show m ≤ k'; omega, hok2⟩, HOK.out.small.1, HOK.out.small.2.1, by have := HOK.out.small.2.2; show m ≤ 5000; have e : n' ≤ 5000 := this; omega⟩
          go_enter Tryz.func120, Tryz.ntmps120
          go_wp2
          go_ret
          exact ⟨some ⟨w.heap.size + 1, 0, none⟩, 1, 1, rfl, [Nt.Dd.some_ ⟨2, p, q, a, b', c', d, A', n', k', xs'⟩ m], DL.single HX2.out HO2.out, Nat.le_refl _, by decide, by rw [HT2.out]; rfl, Nat.le_refl _, HB2.out⟩
        · have HB2 := Lib.hid (bthen (below_new w (.cells #[.int .i64 5, .string p, .string q, .int .i64 a, .int .i64 b', .int .i64 c', .int .i64 d, .slice A' m k'] 74)) (below_new _ (.cells #[.int .i64 5, .string p, .string q, .int .i64 a, .int .i64 b', .int .i64 c', .int .i64 d, .slice A' m k'] 74)))
          have HX2 := Lib.hid (BX.new1 w (.cells #[.int .i64 5, .string p, .string q, .int .i64 a, .int .i64 b', .int .i64 c', .int .i64 d, .slice A' m k'] 74) 74 #[.int .i64 5, .string p, .string q, .int .i64 a, .int .i64 b', .int .i64 c', .int .i64 d, .slice A' m k'])
          have HO2 : Hid (DOk ((w.alloc (.cells #[.int .i64 5, .string p, .string q, .int .i64 a, .int .i64 b', .int .i64 c', .int .i64 d, .slice A' m k'] 74)).alloc (.cells #[.int .i64 5, .string p, .string q, .int .i64 a, .int .i64 b', .int .i64 c', .int .i64 d, .slice A' m k'] 74)) (Nt.Dd.some_ ⟨5, p, q, a, b', c', d, A', n', k', xs'⟩ m)) :=
            ⟨(HOK.out.rbt.pre hmn').below HB2.out, ⟨by show m ≤ k'; omega, hok2⟩, HOK.out.small.1, HOK.out.small.2.1, by have := HOK.out.small.2.2; show m ≤ 5000; have e : n' ≤ 5000 := this; omega⟩
          go_enter Tryz.func120, Tryz.ntmps120
          go_wp2
          go_ret
          exact ⟨some ⟨w.heap.size + 1, 0, none⟩, 1, 1, rfl, [Nt.Dd.some_ ⟨5, p, q, a, b', c', d, A', n', k', xs'⟩ m], DL.single HX2.out HO2.out, Nat.le_refl _, by decide, by rw [HT2.out]; rfl, Nat.le_refl _, HB2.out⟩
    · have HT2 : Hid (LT = []) := by
        show LT = []
        rw [HT.out, if_neg (fun h => hk h.1)]
      have g2 : (kd != 2) = true := by simp; omega
      have g5 : (kd != 5) = true := by simp; omega
      clear hk
      go_enter Tryz.func120, Tryz.ntmps120
      go_wp2
      go_ret
      exact ⟨none, 0, 0, rfl, [], DL.nil, Nat.le_refl _, by decide, HT2.out.symm, Nat.zero_le _, HB.out⟩
end Go.Proofs.YthgbncpiehcghaaGreatDoor
/- WALKS OF LAYER 14, SIXTH PART: New, View, Durable, Waits. -/
namespace Go.Proofs.YthgbncpiehcghaaGreatDoor
set_option linter.unusedVariables false
open Go Go.RowKit Go.Maps
set_option maxRecDepth 100000
set_option maxHeartbeats 4000000
open Nt (Tr Nd WF Ps Path at_ cnt used Dd Dk ap)
theorem new14_any (a b : Int) (w : World) : Calls Tryz.prog 19 #[.int .i64 a, .int .i64 b] w fun e w' => ∃ db, e = .returned (.pointer (some ⟨db, 0, none⟩)) ∧ ∃ dt vt ad mb ad' mb', DM (Bs.of w) w' db dt vt (Nt.new a b) (Nt.new a b) (.slice none 0 0) [] 0 (-1) 1 ad mb ad' mb' := by
  have kn := Lib.hid (fun W => new_any W a b)
  go_enter Tryz.func19, Tryz.ntmps19
  go_wp2_with (first
    | (go_at_call 7; refine (kn.out w1).mono ?_; rintro e w2 ⟨rfl, hr2, hb2⟩)
    | (go_at_call 7; refine (kn.out w).mono ?_; rintro e w1 ⟨rfl, hr1, hb1⟩))
  go_ret
  obtain ⟨ad, mb, hR1⟩ := hr1
  obtain ⟨ad', mb', hR2⟩ := hr2
  have hb12 := bthen hb1 hb2
  have hb3 := below_new w2 (.cells (DkC (w.heap.size + 3) (w1.heap.size + 3) (.slice none 0 0) 0 (-1)) 135)
  have hbx := BX.new w2 135 (DkC (w.heap.size + 3) (w1.heap.size + 3) (.slice none 0 0) 0 (-1))
  have g1 : ∀ k, Fm (Nt.new a b) (w.heap.size + 3) ad mb k → w.heap.size ≤ k ∧ k < w1.heap.size := fun k hk => (hR1.fm hk).resolve_left id
  have g2 : ∀ k, Fm (Nt.new a b) (w1.heap.size + 3) ad' mb' k → w1.heap.size ≤ k ∧ k < w2.heap.size := fun k hk => (hR2.fm hk).resolve_left id
  refine ⟨_, rfl, w.heap.size + 3, w1.heap.size + 3, ad, mb, ad', mb', bthen hb12 hb3, hbx, hb12.size, (hR1.later (bthen hb2 hb3)).min, (hR2.later hb3).min, fun k hk => (g1 k hk).1, fun k hk => Nat.le_trans hb1.size (g2 k hk).1, fun k h1 h2 => ?_, World.ownsRow_nil _ _ _ _, fun y hy => (by cases hy), Keep.ofBelow (bthen hb12 hb3), fun k hk => .inr ?_⟩
  rotate_left
  · rcases hk with h1 | h1 | h1 | h1
    · subst h1; exact hb12.size
    · exact (g1 k h1).1
    · exact Nat.le_trans hb1.size (g2 k h1).1
    · cases h1
  have := (g1 k h1).2
  have := (g2 k h2).1
  omega
theorem clone14 {F : Nat → Prop} {w : World} {tb K : Nat} {T : Tr} {ad mb : Nat → Nat} (hR : RepP F K w tb T ad mb) (hW : WF T K) (hK : K ≤ 100000) :
    Calls Tryz.prog 40 #[.pointer (some ⟨tb, 0, none⟩)] w fun e w' => ∃ tb', e = .returned (.pointer (some ⟨tb', 0, none⟩)) ∧ At w w' tb' T K ∧ Below w.heap.size w w' := by
  refine (tclone_any hW hK hR).mono ?_
  rintro e w' ⟨tb', rfl, hl, ⟨ad', mb', hR'⟩, hb⟩
  refine ⟨tb', rfl, ⟨hW, hb, _, ad', mb', ?_, hR'⟩, hb⟩
  rintro k (h1 | h1)
  · exact h1.elim
  · exact h1
section
variable {w0 : Bs} {w : World} {db dt vt K : Nat} {D V : Tr} {v : Value} {l : List Dd} {sy fu : Int} {ad mb ad' mb' : Nat → Nat}
theorem view14_any (h : DM w0 w db dt vt D V v l sy fu K ad mb ad' mb') (hW : WF V K) (hK : K ≤ 100000) :
    Calls Tryz.prog 26 #[.pointer (some ⟨db, 0, none⟩)] w fun e w' => ∃ tb, e = .returned (.pointer (some ⟨tb, 0, none⟩)) ∧ At w w' tb V K ∧ Below w.heap.size w w' := by
  have km := Lib.hid (dmade_any h.box)
  have kc := Lib.hid (clone14 h.repV hW hK)
  have c1 : w.cell? ⟨db, 1, none⟩ = some (.pointer (some ⟨vt, 0, none⟩)) := h.box.cell rfl
  clear h hW
  go_enter Tryz.func26, Tryz.ntmps26
  go_wp2_with (first
    | (go_at_call 40; refine kc.out.mono ?_; rintro e w2 ⟨tb, rfl, ha, hb⟩)
    | (go_at_call 78; refine km.out.mono ?_; rintro e w1 ⟨rfl, rfl⟩))
  go_ret
  exact ⟨tb, rfl, ha, hb⟩
theorem durable14_any (h : DM w0 w db dt vt D V v l sy fu K ad mb ad' mb') (hW : WF D K) (hK : K ≤ 100000) :
    Calls Tryz.prog 28 #[.pointer (some ⟨db, 0, none⟩)] w fun e w' => ∃ tb, e = .returned (.pointer (some ⟨tb, 0, none⟩)) ∧ At w w' tb D K ∧ Below w.heap.size w w' := by
  have km := Lib.hid (dmade_any h.box)
  have kc := Lib.hid (clone14 h.repD hW hK)
  have c1 : w.cell? ⟨db, 0, none⟩ = some (.pointer (some ⟨dt, 0, none⟩)) := h.box.cell rfl
  clear h hW
  go_enter Tryz.func28, Tryz.ntmps28
  go_wp2_with (first
    | (go_at_call 40; refine kc.out.mono ?_; rintro e w2 ⟨tb, rfl, ha, hb⟩)
    | (go_at_call 78; refine km.out.mono ?_; rintro e w1 ⟨rfl, rfl⟩))
  go_ret
  exact ⟨tb, rfl, ha, hb⟩
end
end Go.Proofs.YthgbncpiehcghaaGreatDoor
