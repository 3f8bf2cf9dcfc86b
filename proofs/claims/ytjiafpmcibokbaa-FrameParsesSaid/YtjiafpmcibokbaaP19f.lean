/- LAYER 19, frame, sixth part: Lay. -/
import Derived.Test.YtjiafpmcibokbaaP19e
import Derived.Test.YtjiafpmcibokbaaM19c
namespace Go.Proofs.Ytjiafpmcibokbaa
open Go Go.RowKit
set_option maxHeartbeats 2000000
set_option maxRecDepth 100000
set_option linter.unusedVariables false
attribute [-go_sem] loadCellsFrom storeCells Instr.build
attribute [local go_sem] storeCells_one storeCells_two loadCells_two
namespace Fm
theorem flds_fl {f : Fr} (h : 1 ≤ f.k ∧ f.k ≤ 7) : flds f = ((fl f.k).map fun x => layF x f).flatten := by
  have c : f.k = 1 ∨ f.k = 2 ∨ f.k = 3 ∨ f.k = 4 ∨ f.k = 5 ∨ f.k = 6 ∨ f.k = 7 := by omega
  unfold flds fl
  rcases c with c | c | c | c | c | c | c <;> rw [c] <;> simp [layF]
theorem fl_take {f : Fr} {l : List Int} {j : Nat} (h : j < l.length) : (((l.take (j + 1)).map fun x => layF x f).flatten) = ((l.take j).map fun x => layF x f).flatten ++ layF (l.getD j 0) f := by
  rw [List.take_add_one, List.getElem?_eq_getElem h, List.getD_eq_getElem?_getD, List.getElem?_eq_getElem h]
  simp only [Option.toList_some, List.map_append, List.flatten_append, List.map_cons, List.map_nil, List.flatten_cons, List.flatten_nil, List.append_nil, Option.getD_some]
end Fm
theorem layx_any19 {f : Fm.Fr} {w : World} {base n : Nat} {v : Value} {xs : List Int} {x : Int} (hx : 0 ≤ x ∧ x ≤ 5) (hf : f.fit) (ho : OBn w base 5 v n xs) (hb : base ≤ w.heap.size) (hn : n ≤ 700000) (rf : RG w base f.RA f.m f.rs) (df : RB w base f.A f.n f.xs) (hm : f.m ≤ 10000) (hfn : f.n ≤ 200000) (hc : x = 5 → 0 ≤ f.cd ∧ f.cd ≤ 255) :
    Calls Try.prog 25 #[.int .i64 x, v, .agg (Fm.FC f)] w (LG x f base n xs w) := by
  have c : x = 0 ∨ x = 1 ∨ x = 2 ∨ x = 3 ∨ x = 4 ∨ x = 5 := by omega
  rcases c with rfl | rfl | rfl | rfl | rfl | rfl
  · exact lay0_any19 hf.ln ho hb hn hf.off
  · exact lay1_any19 hf.ln ho hb hn hf.tot
  · exact lay2_any19 hf.ln ho hb hn
  · exact lay3_any19 hf.ln ho hb hn df hfn
  · exact lay4_any19 hf.ln ho hb hn rf hm
  · exact lay5_any19 hf.ln ho hb hn (hc rfl)
theorem Fm.layF_le19 {f : Fm.Fr} (hf : f.fit) (hm : f.m ≤ 10000) (hfn : f.n ≤ 200000) (x : Int) : (Fm.layF x f).length ≤ 200000 := by
  have h1 := hf.ln.2
  have h2 := hf.n
  have h3 := hf.m
  unfold Fm.layF
  (repeat' split) <;> (try simp only [Fm.num_len, h1, List.length_cons, List.length_nil, Fm.rgs_len]) <;> omega
theorem lay_any19 (f : Fm.Fr) (w : World) (hf : f.fit) (rf : RG w w.heap.size f.RA f.m f.rs) (df : RB w w.heap.size f.A f.n f.xs) (hm : f.m ≤ 10000) (hfn : f.n ≤ 200000) (hby : Fm.may f = 0 → Byt (Fm.body f)) :
    Calls Try.prog 9 #[.agg (Fm.FC f)] w fun e w' => ∃ v, e = .returned (.tuple #[v, .int .i64 (Fm.may f)]) ∧ (Fm.may f = 0 → OBn w' w.heap.size 5 v ((Fm.body f).length + 4) (Ck.sealed (Fm.body f))) ∧ (Fm.may f ≠ 0 → v = .slice none 0 0) ∧ Below w.heap.size w w' := by
  have hl := hf.ln
  have bF := BX.new w 42 (Fm.FC f)
  have HB := Lib.hid ((Below.refl w.heap.size w).alloc (Nat.le_refl _) (.cells (Fm.FC f) 42))
  have LA := Lib.hid (fun W (h : BX W w.heap.size 42 (Fm.FC f)) => run_cells_part (P := Try.prog) h 0 _ 56 (Fm.FC_size hl) (fun j _ => by rw [Nat.zero_add]))
  have la := LA.out _ bF
  have LK := Lib.hid (fun W (h : BX W w.heap.size 42 (Fm.FC f)) => (FB.of h hl).c0)
  have RF := Lib.hid (rf.below HB.out)
  have DF := Lib.hid (df.below HB.out)
  obtain ⟨W1, hW1⟩ : ∃ W, w.alloc (.cells (Fm.FC f) 42) = W := ⟨_, rfl⟩
  have SZ := Lib.hid (show W1.heap.size = w.heap.size + 1 by rw [← hW1, World.size_alloc])
  rw [hW1] at bF HB la RF DF
  have MA := Lib.hid (may_any19 f W1 hl (RF.out.more HB.out.size) (by omega))
  have HBY := Lib.hid hby
  have BF := Lib.hid bF
  have RF0 := Lib.hid rf
  have DF0 := Lib.hid df
  clear hby rf df bF
  obtain ⟨Z, hZ⟩ : ∃ Z, Fm.may f = Z := ⟨_, rfl⟩
  rw [hZ] at MA HBY ⊢
  by_cases h0 : Z = 0
  rotate_left
  · have HZ := Lib.hid hZ
    clear hZ
    go_enter Try.func9, Try.ntmps9
    go_wp2_with (go_at_call 22; (with_reducible refine MA.out.mono ?_); rintro e w1 ⟨rfl, hb1⟩; have HB1 := Lib.hid (bthen' HB.out hb1); clear hb1)
    go_ret2
    exact ⟨_, rfl, fun h => absurd h h0, fun _ => rfl, HB1.out⟩
  subst h0
  obtain ⟨hk, h3, h4, h7⟩ := Fm.may_zero hZ
  have HBY0 := Lib.hid (HBY.out rfl)
  have HFL := Lib.hid (Fm.flds_fl hk)
  have H5 := Lib.hid (show ∀ j, j < (Fm.fl f.k).length → (Fm.fl f.k).getD j 0 = 5 → 0 ≤ f.cd ∧ f.cd ≤ 255 from fun j hj e => by
    have : f.k = 7 := by
      have c : f.k = 1 ∨ f.k = 2 ∨ f.k = 3 ∨ f.k = 4 ∨ f.k = 5 ∨ f.k = 6 ∨ f.k = 7 := by omega
      rcases c with c | c | c | c | c | c | c <;> rw [c] at e hj <;> simp [Fm.fl] at e hj <;> (try (have : j = 0 ∨ j = 1 := by omega)) <;> (try (rcases this with rfl | rfl <;> simp at e)) <;> (try (subst hj; simp at e)) <;> exact c
    have := h7 this
    omega)
  have HD := Lib.hid (fun W => layhead_any19 f W hl (by omega) hf.s hf.r)
  have hT : 42 ≠ 5 := by decide
  have HK := Lib.hid hk
  clear hZ HBY h3 h4 h7 hk
  go_enter Try.func9, Try.ntmps9
  go_wp2_with (first
    | (go_at_call 22; (with_reducible refine MA.out.mono ?_); rintro e w1 ⟨rfl, hb1⟩; have HB1 := Lib.hid (bthen' HB.out hb1); have BF1 := Lib.hid (BF.out.later hb1); have SZ1 := Lib.hid (show w.heap.size + 1 ≤ w1.heap.size by rw [← SZ.out]; exact hb1.size); have la1 := LA.out _ BF1.out; clear hb1)
    | (go_at_call 23; (with_reducible refine (HD.out _).mono ?_); rintro e w2 ⟨v2, rfl, ho2, hb2, hk2⟩; have HB2 := Lib.hid (bthen' HB1.out hb2); have BF2 := Lib.hid (hk2 _ _ _ hT BF1.out); have SZ2 := Lib.hid (Nat.le_trans SZ1.out hb2.size); have HO2 := Lib.hid (OBn.low (base' := w.heap.size + 1) ho2 (Nat.le_trans SZ1.out (Nat.le_succ _))); have k2 := LK.out _ BF2.out; clear ho2 hb2 hk2)
    | (go_at_call 24; (with_reducible refine (fieldsof_any19 _ _).mono ?_); rintro e w3 ⟨A3, n3, c3, rfl, hi3, hn3, hb3⟩; have HB3 := Lib.hid (bthen' HB2.out hb3); have BF3 := Lib.hid (BF2.out.later hb3); have SZ3 := Lib.hid (Nat.le_trans SZ2.out hb3.size); have HO3 := Lib.hid (HO2.out.later hb3); have HI3 := Lib.hid hi3; clear hi3 hb3))
  obtain ⟨L, hL⟩ : ∃ L, Fm.fl f.k = L := ⟨_, rfl⟩
  rw [hL] at HI3 H5 HFL
  have HL := Lib.hid hL
  have hLn := HI3.out.1
  have HLN := Lib.hid hLn
  clear la la1 k2 hL hLn
  go_loopw [5, 19] (fun v i W => ∃ j m : Nat, j ≤ n3 ∧ i = .int .i64 j ∧ Hid (m = 28 + (((L.take j).map fun x => Fm.layF x f).flatten).length ∧ m ≤ 28 + 200000 * j) ∧ Hid (OBn W (w.heap.size + 1) 5 v m (Fm.head f ++ ((L.take j).map fun x => Fm.layF x f).flatten)) ∧ Hid (Below w.heap.size w W) ∧ Hid (BX W w.heap.size 42 (Fm.FC f)) ∧ Hid (IL W A3 n3 L)) (fun _ i _ => n3 - (intOf i).toNat)
  case atStart => exact ⟨0, 28, Nat.zero_le _, rfl, ⟨by simp, by omega⟩, by show OBn _ _ _ _ _ _; have := HO3.out; simpa using this, HB3.out, BF3.out, HI3.out⟩
  case round =>
    obtain ⟨j, m, hj, rfl, HM, HO, HBJ, BFJ, HIJ⟩ := hrel
    have hn3' := hn3
    by_cases hlt : j < n3
    · have hlt' : (j : Int) < n3 := by omega
      obtain ⟨b3, rfl, c7⟩ := HIJ.out.at_ hlt
      rw [Nat.zero_add] at c7
      have la := LA.out _ BFJ.out
      have HTK := Lib.hid (Fm.fl_take (f := f) (l := L) (j := j) (by rw [HLN.out]; exact hlt))
      have hin : 0 ≤ L.getD j 0 ∧ L.getD j 0 ≤ 5 := by rw [← HL.out]; exact Fm.fl_in (by rw [HL.out, HLN.out]; exact hlt)
      have H5J := Lib.hid (H5.out j (by rw [HLN.out]; exact hlt))
      have HLE := Lib.hid (Fm.layF_le19 hf hm hfn (L.getD j 0))
      obtain ⟨x, hx⟩ : ∃ x, L.getD j 0 = x := ⟨_, rfl⟩
      rw [hx] at c7 HTK hin H5J HLE
      have hBw : w.heap.size + 1 ≤ wr.heap.size := BFJ.out.lt
      have hm' := HM.out
      have hj2 : j < 2 := by omega
      have LX := Lib.hid (layx_any19 hin hf HO.out hBw (by omega) ((RF0.out.below HBJ.out).more (Nat.le_succ _)) ((DF0.out.below HBJ.out).more (Nat.le_succ _)) hm hfn H5J.out)
      clear hin hBw hx hm'
      go_wp2_with (go_at_call 25; (with_reducible refine LX.out.mono ?_); rintro e w4 ⟨v4, rfl, ho4, hb4, hk4⟩; have HO4 := Lib.hid ho4; have HB4 := Lib.hid (HBJ.out.trans (hb4.mono (Nat.le_succ _))); have BF4 := Lib.hid (hk4 _ _ _ hT BFJ.out); have HI4 := Lib.hid (HIJ.out.ku hk4); clear ho4 hb4 hk4)
      go_roundw
      case rel => exact ⟨j + 1, m + (Fm.layF x f).length, by omega, by go_num, by have h1 := HM.out; have h2 := HLE.out; show _ ∧ _; rw [HTK.out, List.length_append]; constructor <;> omega, by show OBn _ _ _ _ _ _; rw [HTK.out, ← List.append_assoc]; exact HO4.out, HB4.out, BF4.out, HI4.out⟩
      case measure => simp [intOf]; omega
    · obtain rfl : j = n3 := by omega
      have hto := HO.out
      have hmo := HM.out
      rw [List.take_of_length_le (by rw [HLN.out]; exact Nat.le_refl _)] at hto hmo
      have HXX := Lib.hid (show Fm.head f ++ (L.map fun x => Fm.layF x f).flatten = Fm.body f by unfold Fm.body; rw [HFL.out])
      rw [HXX.out] at hto
      have hml : m = (Fm.body f).length := by rw [← HXX.out, List.length_append, hmo.1]; congr 1; simp [Fm.head, hl.1, Fm.num_len]
      rw [hml] at hto
      have hbl : (Fm.body f).length ≤ 500000 := by rw [← hml]; omega
      obtain ⟨A5, c5, e5, hr5, hc5, hm5⟩ := hto.slice
      have SE := Lib.hid (seal_any A5 (Fm.body f).length c5 (Fm.body f) wr hr5 HBY0.out hc5 hm5 hbl)
      have E5 := Lib.hid e5
      clear hto hmo hml hbl hr5 hc5 hm5 e5
      rw [E5.out]
      go_wp2_with (go_at_call 26; (with_reducible refine SE.out.mono ?_); rintro e w6 ⟨v6, rfl, ho6, hb6⟩; have HO6 := Lib.hid (OBn.low ho6 HBJ.out.size); have HB6 := Lib.hid (bthen' HBJ.out hb6); clear ho6 hb6)
      go_ret2
      exact ⟨_, rfl, fun _ => HO6.out, fun h => absurd rfl h, HB6.out⟩
end Go.Proofs.Ytjiafpmcibokbaa
