/- LAYER 19, the document's answers, fifth part: Lay. -/
import Derived.Test.YtjiafpmcibokbaaR19e
import Derived.Deep.AppendLies
namespace Go.Proofs.Ytjiafpmcibokbaa
open Go Go.RowKit
set_option maxHeartbeats 8000000
set_option maxRecDepth 100000
set_option linter.unusedVariables false
attribute [-go_sem] loadCellsFrom storeCells Instr.build
attribute [local go_sem] storeCells_one storeCells_two loadCells_two
namespace Fm
def rgs : List (Nat × Nat) → List Int
  | [] => []
  | (a, b) :: l => num 8 a ++ num 8 b ++ rgs l
/-- A frame's fields, laid. -/
def flds (f : Fr) : List Int :=
  if f.k = 1 ∨ f.k = 5 then num 8 f.tot ++ f.sum
  else if f.k = 2 then num 8 f.off
  else if f.k = 3 then num 8 f.off ++ f.xs
  else if f.k = 4 then num 8 f.off ++ rgs f.rs
  else if f.k = 6 then num 8 f.tot
  else [f.cd]
def head (f : Fr) : List Int := [84, 87, f.k, ((f.s % 4 + f.r % 4) % 4 : Nat)] ++ f.tok ++ num 4 f.s ++ num 4 f.r
def body (f : Fr) : List Int := head f ++ flds f
end Fm
theorem step_append_run19 {P : Program} {w : World} {ops : Array Oper} {o : Oper} {a : Act} {K : Act → World → Prop} {Q : Exit → Act → World → Prop} {E : Prop} (hgd : o.guard = none) (s x : Operand) (t tn : TypeId)
    (ho : o.op = .call { callee := .builtin .append, args := #[s, x], argTypes := #[t, tn] }) (vs vx : Value) (hs : a.eval s = vs) (hx : a.eval x = vx) {v' : Value} {w' : World}
    (hr : (Builtin.append_ #[t, tn] o.type #[vs, vx]).run P w = .ok v' w') (h : K (a.put o.dst v') w') :
    if Region.wanted o (yielded ops a.tmps) = true then Oper.wp P o a w K Q else E := by
  have hw : Region.wanted o (yielded ops a.tmps) = true := by simp [Region.wanted, hgd]
  rw [if_pos hw]
  unfold Oper.wp execOp
  simp only [ho, resolve, invoke, builtin, Sem.run_bind, Sem.run_pure, Result.andThen_ok, List.map_toArray, List.map_cons, List.map_nil, hs, hx, hr]
  exact h
theorem rb_tok {w : World} {b B : Nat} {T : TypeId} {f : Fm.Fr} (h : BX w b T (Fm.FC f)) (hl : f.ln) (hB : b < B) : RB w B (some ⟨b, 1, none⟩) 16 f.tok :=
  ⟨hl.1, fun _ => ⟨b, 1, rfl, hB, fun j hj => by
    refine h.cell ?_
    rw [Fm.FC_tok hl hj, List.getElem?_map, List.getElem?_eq_getElem (by rw [hl.1]; exact hj)]
    simp [Fm.ub, List.getD_eq_getElem?_getD, List.getElem?_eq_getElem (show j < f.tok.length by rw [hl.1]; exact hj)]⟩⟩
theorem rb_sum {w : World} {b B : Nat} {T : TypeId} {f : Fm.Fr} (h : BX w b T (Fm.FC f)) (hl : f.ln) (hB : b < B) : RB w B (some ⟨b, 21, none⟩) 32 f.sum :=
  ⟨hl.2, fun _ => ⟨b, 21, rfl, hB, fun j hj => by
    refine h.cell ?_
    rw [Fm.FC_sum hl hj, List.getElem?_map, List.getElem?_eq_getElem (by rw [hl.2]; exact hj)]
    simp [Fm.ub, List.getD_eq_getElem?_getD, List.getElem?_eq_getElem (show j < f.sum.length by rw [hl.2]; exact hj)]⟩⟩
theorem Fm.may_zero {f : Fm.Fr} (h : Fm.may f = 0) : (1 ≤ f.k ∧ f.k ≤ 7) ∧ (f.k = 3 → f.n ≠ 0 ∧ f.n ≤ 256) ∧ (f.k = 4 → f.m ≤ 4 ∧ Fm.rise f.off f.rs = true) ∧ (f.k = 7 → 1 ≤ f.cd ∧ f.cd ≤ 99) := by
  unfold Fm.may Fm.mayE at h
  split at h
  · cases h
  split at h
  · cases h
  split at h
  · cases h
  split at h
  · cases h
  split at h
  · cases h
  · rename_i h1 h2 h3 h4 h5
    refine ⟨by omega, fun e => ⟨fun e2 => h2 ⟨e, e2⟩, by omega⟩, fun e => ⟨by omega, ?_⟩, fun e => by omega⟩
    cases hr : Fm.rise f.off f.rs
    · exact absurd (.inl ⟨e, hr⟩) h5
    · rfl
theorem Fm.rgs_app : ∀ (l : List (Nat × Nat)) (a b : Nat), Fm.rgs (l ++ [(a, b)]) = Fm.rgs l ++ Fm.num 8 a ++ Fm.num 8 b
  | [], a, b => by simp [Fm.rgs]
  | (x, y) :: l, a, b => by
    have := Fm.rgs_app l a b
    simp only [List.cons_append, Fm.rgs, this, List.append_assoc]
theorem Fm.rgs_len : ∀ l : List (Nat × Nat), (Fm.rgs l).length = 16 * l.length
  | [] => rfl
  | (x, y) :: l => by
    have := Fm.rgs_len l
    simp only [Fm.rgs, List.length_append, Fm.num_len, this, List.length_cons]
    omega
theorem app_own19 {w : World} {base n b2 m c : Nat} {v : Value} {xs ys : List Int} {A : Option Addr} (ho : OBn w base 5 v n xs) (hr : RB w w.heap.size A m ys) (hm : n + m ≤ 1000000) (hb : base ≤ w.heap.size) :
    ∃ v' w', (Builtin.append_ #[28, 28] 28 #[v, .slice A m c]).run Try.prog w = .ok v' w' ∧ OBn w' base 5 v' (n + m) (xs ++ ys) ∧ Below base w w' ∧ ∀ b3 v3 n3 zs, OBn w b3 5 v3 n3 zs → (∀ k, v.ownBlock = some k → k < b3) → OBn w' b3 5 v3 n3 zs := by
  obtain ⟨i0, hi, hz0, hz1, hz2⟩ := info_parts info_u8
  obtain ⟨v', w', hrun, hown, hgrow⟩ := run_append_rb (P := Try.prog) base w.heap.size 28 28 5 i0 Try.underlying28 hi hz0 hz1 hz2 v n xs ho A m c ys hr hm hb
  refine ⟨v', w', hrun, hown, below_app (Below.refl _ _) hb ho hgrow, fun b3 v3 n3 zs h3 hl => OBn.kept h3 fun k hk => hgrow.block k (World.ownsRow.lt h3 k hk).2 fun e => ?_⟩
  have h1 := (World.ownsRow.lt h3 k hk).1
  have h2 := hl k e.symm
  omega
theorem reflay_any19 (f : Fm.Fr) (w : World) (hl : f.ln) (rf : RG w w.heap.size f.RA f.m f.rs) (df : RB w w.heap.size f.A f.n f.xs) (hm : f.m ≤ 1000000) (hn : f.n ≤ 1000000) (hs : f.s ≤ 4294967295) (hr : f.r ≤ 4294967295) (ho : f.off < 18446744073709551616) (ht : f.tot < 18446744073709551616) (hby : Byt (Fm.body f)) :
    Calls Try.prog 11 #[.agg (Fm.FC f)] w fun e w' => ∃ v, e = .returned (.tuple #[v, .int .i64 (Fm.may f)]) ∧ (Fm.may f = 0 → OBn w' w.heap.size 5 v ((Fm.body f).length + 4) (Ck.sealed (Fm.body f))) ∧ (Fm.may f ≠ 0 → v = .slice none 0 0) ∧ Below w.heap.size w w' := by
  have bF := BX.new w 31 (Fm.FC f)
  have bW := (Below.refl w.heap.size w).alloc (Nat.le_refl _) (.cells (Fm.FC f) 31)
  have sW : (w.alloc (.cells (Fm.FC f) 31)).heap.size = w.heap.size + 1 := by simp
  obtain ⟨i0, hi, hz0, hz1, hz2⟩ := info_parts info_u8
  have MY := Lib.hid (refmay_any19 f (w.alloc (.cells (Fm.FC f) 31)) hl ((rf.below bW).more bW.size) hm)
  by_cases hmay : Fm.may f = 0
  rotate_left
  · have hmay' : ¬ (Fm.may f = 0) := hmay
    go_enter Try.func11, Try.ntmps11
    go_upto_region 1 with (fail)
    generalize (w.alloc (.cells (Fm.FC f) 31)) = W1 at *
    have la := (FB.of bF hl).lall
    have HW := Lib.hid bW
    clear bW sW
    go_wp2_with (go_at_call 27; (with_reducible refine MY.out.mono ?_); rintro e w1 ⟨rfl, hb⟩; have B1 := Lib.hid hb; clear hb)
    go_ret2
    exact ⟨_, rfl, fun e => absurd e hmay, fun _ => rfl, bthen' HW.out B1.out⟩
  have HMAY := Lib.hid hmay
  obtain ⟨⟨k1, k7⟩, hk3, hk4, hk7⟩ := Fm.may_zero hmay
  have HK3 := Lib.hid hk3
  have HK4 := Lib.hid hk4
  have HK7 := Lib.hid hk7
  clear hk3 hk4 hk7
  rw [hmay] at MY ⊢
  clear hmay
  have HBY := Lib.hid hby
  clear hby
  go_enter Try.func11, Try.ntmps11
  go_upto_region 1 with (fail)
  generalize (w.alloc (.cells (Fm.FC f) 31)) = W1 at *
  have la := (FB.of bF hl).lall
  have HW := Lib.hid bW
  have SW := Lib.hid sW
  clear bW sW
  go_upto_region 4 with (go_at_call 27; (with_reducible refine MY.out.mono ?_); rintro e w1 ⟨rfl, hb⟩; have B1 := Lib.hid hb; clear hb)
  have bF1 := Lib.hid (bF.later B1.out)
  have MK := Lib.hid (refmark_any f.s f.r)
  have hmk : Dl.mark f.s f.r < 4 := Nat.mod_lt _ (by decide)
  have HHD := Lib.hid (show Fm.head f = [84, 87, f.k, (Dl.mark f.s f.r : Nat)] ++ f.tok ++ Fm.num 4 f.s ++ Fm.num 4 f.r from rfl)
  generalize Dl.mark f.s f.r = mk at *
  have hk : IntKind.u8.wrap f.k = f.k := by rw [IntKind.wrap_u8']; omega
  have HKK := Lib.hid (rfl : f.k = f.k)
  clear bF la MY
  have B01 := Lib.hid (bthen' HW.out B1.out)
  have SZ1 := Lib.hid (show w.heap.size + 1 ≤ w1.heap.size from Nat.le_trans (Nat.le_of_eq SW.out.symm) B1.out.size)
  go_cut [5] (fun v W => Hid (OBn W (w.heap.size + 1) 5 v 20 ([84, 87, f.k, (mk : Int)] ++ f.tok)) ∧ Hid (Below (w.heap.size + 1) w1 W))
  case first =>
    generalize hkk : f.k = k at *
    have HKK := Lib.hid hkk
    clear hkk HK3 HK4 HK7 HHD HBY rf df
    have q := FB.of bF1.out hl
    obtain ⟨c0, c17, c18, _, _, _, _, _, _, _, _, _⟩ := q
    rw [HKK.out] at c0
    have APP := Lib.hid (fun W2 (h : Below w1.heap.size w1 W2) => by
      have hz := Nat.le_trans SZ1.out h.size
      have bw : Below W2.heap.size W2 (W2.alloc (.cells #[.int .u8 84, .int .u8 87, .int .u8 k, .int .u8 (mk : Int)] 5)) := Below.alloc (Below.refl _ _) (Nat.le_refl _) _
      have ho : OBn (W2.alloc (.cells #[.int .u8 84, .int .u8 87, .int .u8 k, .int .u8 (mk : Int)] 5)) (w.heap.size + 1) 5 (.slice (some ⟨W2.heap.size, 0, none⟩) 4 4) 4 [84, 87, k, mk] := World.ownsRow_lit W2 #[.int .u8 84, .int .u8 87, .int .u8 k, .int .u8 (mk : Int)] 4 hz (by unfold maxLen; omega) rfl
      obtain ⟨v3, w3, hrun, hown, hgrow⟩ := run_append_rb (P := Try.prog) (w.heap.size + 1) (w.heap.size + 1) 28 28 5 i0 Try.underlying28 hi hz0 hz1 hz2 _ 4 _ ho (some ⟨w.heap.size, 1, none⟩) 16 16 f.tok (rb_tok ((bF1.out.later h).later bw) hl (Nat.lt_succ_self _)) (by omega) (Nat.le_trans hz bw.size)
      exact (⟨v3, w3, hrun, hown, (h.mono SZ1.out).trans (below_app ((bw.mono hz)) hz ho hgrow)⟩ : ∃ v3 w3, (Builtin.append_ #[28, 28] 28 #[.slice (some ⟨W2.heap.size, 0, none⟩) 4 4, .slice (some ⟨w.heap.size, 1, none⟩) 16 16]).run Try.prog (W2.alloc (.cells #[.int .u8 84, .int .u8 87, .int .u8 k, .int .u8 (mk : Int)] 5)) = .ok v3 w3 ∧ OBn w3 (w.heap.size + 1) 5 v3 20 ([84, 87, k, (mk : Int)] ++ f.tok) ∧ Below (w.heap.size + 1) w1 w3))
    have FK := Lib.hid (fun W2 (h : Below w1.heap.size w1 W2) => show W2.cell? ⟨w.heap.size, 0, none⟩ = some (.int .i64 k) by rw [← HKK.out]; exact (FB.of (bF1.out.later h) hl).c0)
    go_region_law (first
      | (go_simp; go_at_call 28; (with_reducible refine (MK.out _).mono ?_); rintro e w2 ⟨rfl, hb⟩; have B2 := Lib.hid (bthen' ((Below.refl w1.heap.size w1).drew) hb); have z0 := FK.out _ B2.out; clear hb)
      | (obtain ⟨v3, w3, hrun, hown, hb3⟩ := APP.out w2 B2.out; refine step_append_run19 rfl (.tmp 18) (.tmp 20) 28 28 rfl _ _ (by simp [Act.eval]) (by simp [Act.eval]) hrun ?_; have HO3 := Lib.hid hown; have B3 := Lib.hid hb3; clear hrun hown hb3))
    all_goals (
      go_wp2
      go_meet
      exact ⟨HO3.out, B3.out⟩)
  case rest =>
    obtain ⟨HO, HB⟩ := hcut
    have HB5 := Lib.hid (B01.out.trans (HB.out.mono (Nat.le_succ _)))
    have bF2 := Lib.hid (bF1.out.below HB.out (Nat.lt_succ_self _))
    have SZ2 := Lib.hid (Nat.le_trans SZ1.out HB.out.size)
    clear MK hmk hk
    have hpre : (([84, 87, f.k, (mk : Int)] ++ f.tok) : List Int).length = 20 := HO.out.len
    generalize (([84, 87, f.k, (mk : Int)] ++ f.tok) : List Int) = pre at *
    clear B1 SW SZ1 bF1 HB B01 HW
    have NS := Lib.hid (show ∀ W, Calls Try.prog 29 #[.int .u64 (f.s : Int), .int .i64 4] W fun e w' => ∃ v, e = .returned v ∧ OBn w' W.heap.size 5 v 4 (Fm.num 4 f.s) ∧ Below W.heap.size W w' from fun W => refnumber_any f.s 4 W (by omega) (by omega) (by omega))
    have wrs : IntKind.u64.wrap (f.s : Int) = (f.s : Int) := by simp [IntKind.wrap, IntKind.bits, IntKind.signed]; omega
    have NR := Lib.hid (show ∀ W, Calls Try.prog 29 #[.int .u64 (f.r : Int), .int .i64 4] W fun e w' => ∃ v, e = .returned v ∧ OBn w' W.heap.size 5 v 4 (Fm.num 4 f.r) ∧ Below W.heap.size W w' from fun W => refnumber_any f.r 4 W (by omega) (by omega) (by omega))
    have wrr : IntKind.u64.wrap (f.r : Int) = (f.r : Int) := by simp [IntKind.wrap, IntKind.bits, IntKind.signed]; omega
    go_upto_region 5 with (fail)
    go_cut [5] (fun v W => Hid (OBn W (w.heap.size + 1) 5 v 28 (Fm.head f)) ∧ Hid (Below (w.heap.size + 1) wc W))
    case first =>
      have q := FB.of bF2.out hl
      obtain ⟨c0, c17, c18, _, _, _, _, _, _, _, _, _⟩ := q
      have FK := Lib.hid (fun W2 (h : Below (w.heap.size + 1) wc W2) => show W2.cell? ⟨w.heap.size, 17, none⟩ = some (.int .u32 (f.s : Int)) ∧ W2.cell? ⟨w.heap.size, 18, none⟩ = some (.int .u32 (f.r : Int)) from ⟨(FB.of (bF2.out.below h (Nat.lt_succ_self _)) hl).c17, (FB.of (bF2.out.below h (Nat.lt_succ_self _)) hl).c18⟩)
      clear HK3 HK4 HK7 HBY rf df
      have hacc : Below (w.heap.size + 1) wc wc.drew := (Below.refl _ _).drew
      replace HO := Lib.hid (show OBn wc.drew (w.heap.size + 1) 5 _ 20 pre from World.ownsRow.drew HO.out)
      go_region_law (first
        | (go_simp; go_at_call 29; (with_reducible refine (NS.out _).mono ?_); rintro e wS ⟨vS, rfl, hoS, hbS⟩; have HS := Lib.hid hoS; replace HO := Lib.hid (HO.out.later hbS); replace hacc := bthen' hacc hbS SZ2.out; obtain ⟨z17, z18⟩ := FK.out _ hacc; (try replace HR := Lib.hid (HR.out.later hbS)); clear hoS hbS)
        | (go_simp; go_at_call 29; (with_reducible refine (NR.out _).mono ?_); rintro e wR ⟨vR, rfl, hoR, hbR⟩; have HR := Lib.hid hoR; have LR := Lib.hid (fun k hk => (World.ownsRow.lt HO.out k hk).2); replace HO := Lib.hid (HO.out.later hbR); replace hacc := bthen' hacc hbR SZ2.out; obtain ⟨z17, z18⟩ := FK.out _ hacc; (try replace HS := Lib.hid (HS.out.later hbR)); clear hoR hbR)
        | (obtain ⟨AS, cS, eS, hrS, _, _⟩ := OBn.slice HS.out; obtain ⟨v6, w6, hrun, hown, hb6, hk6⟩ := app_own19 (c := cS) (b2 := 0) HO.out hrS (by omega) (Nat.le_trans SZ2.out hacc.size); rw [← eS] at hrun; refine step_append_run19 rfl (.tmp 22) (.tmp 27) 28 28 rfl _ _ (by simp [Act.eval, Act.put]) (by simp [Act.eval, Act.put]) hrun ?_; (try replace HR := Lib.hid (hk6 _ _ _ _ HR.out LR.out)); replace HO := Lib.hid hown; replace hacc := hacc.trans hb6; obtain ⟨z17, z18⟩ := FK.out _ hacc; clear hrun hown hb6 hk6 hrS eS)
        | (obtain ⟨AR, cR, eR, hrR, _, _⟩ := OBn.slice HR.out; obtain ⟨v7, w7, hrun, hown, hb7, hk7⟩ := app_own19 (c := cR) (b2 := 0) HO.out hrR (by omega) (Nat.le_trans SZ2.out hacc.size); rw [← eR] at hrun; refine step_append_run19 rfl (.tmp 28) (.tmp 33) 28 28 rfl _ _ (by simp [Act.eval]) (by simp [Act.eval]) hrun ?_; have HO7 := Lib.hid hown; replace hacc := hacc.trans hb7; clear hrun hown hb7 hk7 hrR eR))
      all_goals (
        go_wp2
        go_meet
        exact ⟨by rw [HHD.out]; exact HO7.out, hacc⟩)
    case rest =>
      obtain ⟨HO, HB⟩ := hcut
      have HB6 := Lib.hid (HB5.out.trans (HB.out.mono (Nat.le_succ _)))
      have bF3 := Lib.hid (bF2.out.below HB.out (Nat.lt_succ_self _))
      have SZ3 := Lib.hid (Nat.le_trans SZ2.out HB.out.size)
      have hh28 : (Fm.head f).length = 28 := HO.out.len
      have RF := Lib.hid ((rf.below HB6.out))
      have DF := Lib.hid ((df.below HB6.out))
      clear NS NR wrs wrr bF2 SZ2 HB5 HB HHD hpre rf df
      have NO := Lib.hid (show ∀ W, Calls Try.prog 29 #[.int .u64 (f.off : Int), .int .i64 8] W fun e w' => ∃ v, e = .returned v ∧ OBn w' W.heap.size 5 v 8 (Fm.num 8 f.off) ∧ Below W.heap.size W w' from fun W => refnumber_any f.off 8 W ho (by omega) (by omega))
      have NT := Lib.hid (show ∀ W, Calls Try.prog 29 #[.int .u64 (f.tot : Int), .int .i64 8] W fun e w' => ∃ v, e = .returned v ∧ OBn w' W.heap.size 5 v 8 (Fm.num 8 f.tot) ∧ Below W.heap.size W w' from fun W => refnumber_any f.tot 8 W ht (by omega) (by omega))
      obtain ⟨c0, _, _, c19, c20, c53, c54, c55, _, _, _, _⟩ := FB.of bF3.out hl
      go_upto_block 0 with (fail)
      go_cut [5, 6, 36] (fun v _ _ W => Hid (OBn W (w.heap.size + 1) 5 v (Fm.body f).length (Fm.body f)) ∧ Hid (Below (w.heap.size + 1) wc W))
      case first =>
        have hacc : Below (w.heap.size + 1) wc wc := Below.refl _ _
        have HBL := Lib.hid (show Fm.body f = Fm.head f ++ Fm.flds f from rfl)
        have HCK := Lib.hid c0
        by_cases e2 : f.k = 2
        · have EB : Hid (Fm.body f = Fm.head f ++ Fm.num 8 f.off) := show _ = _ by rw [HBL.out]; unfold Fm.flds; rw [if_neg (by omega), if_pos e2]
          have EL : Hid ((Fm.body f).length = 28 + 8) := show _ = _ by rw [EB.out, List.length_append, hh28, Fm.num_len]
          go_wp2_with (first
            | (go_at_call 29; (with_reducible refine (NO.out _).mono ?_); rintro e wN ⟨vN, rfl, hoN, hbN⟩; have HN := Lib.hid hoN; replace HO := Lib.hid (HO.out.later hbN); replace hacc := bthen' hacc hbN SZ3.out; clear hoN hbN)
            | (at_builtin; obtain ⟨AN, cN, eN, hrN, _, _⟩ := OBn.slice HN.out; subst eN; obtain ⟨v6, w6, hrun, hown, hb6, hk6⟩ := app_own19 (c := cN) (b2 := 0) HO.out hrN (by omega) (Nat.le_trans SZ3.out hacc.size); refine Lib.wpList_append_run _ rfl _ _ 28 28 rfl _ (.slice AN 8 cN) rfl rfl _ _ hrun ?_; replace HO := Lib.hid hown; replace hacc := hacc.trans hb6; clear hrun hown hb6 hk6 hrN))
          go_meet
          exact ⟨by show OBn _ _ _ _ _ _; rw [EL.out, EB.out]; exact HO.out, hacc⟩
        by_cases e6 : f.k = 6
        · have EB : Hid (Fm.body f = Fm.head f ++ Fm.num 8 f.tot) := show _ = _ by rw [HBL.out]; unfold Fm.flds; rw [if_neg (by omega), if_neg (by omega), if_neg (by omega), if_neg (by omega), if_pos e6]
          have EL : Hid ((Fm.body f).length = 28 + 8) := show _ = _ by rw [EB.out, List.length_append, hh28, Fm.num_len]
          go_wp2_with (first
            | (go_at_call 29; (with_reducible refine (NT.out _).mono ?_); rintro e wN ⟨vN, rfl, hoN, hbN⟩; have HN := Lib.hid hoN; replace HO := Lib.hid (HO.out.later hbN); replace hacc := bthen' hacc hbN SZ3.out; clear hoN hbN)
            | (at_builtin; obtain ⟨AN, cN, eN, hrN, _, _⟩ := OBn.slice HN.out; subst eN; obtain ⟨v6, w6, hrun, hown, hb6, hk6⟩ := app_own19 (c := cN) (b2 := 0) HO.out hrN (by omega) (Nat.le_trans SZ3.out hacc.size); refine Lib.wpList_append_run _ rfl _ _ 28 28 rfl _ (.slice AN 8 cN) rfl rfl _ _ hrun ?_; replace HO := Lib.hid hown; replace hacc := hacc.trans hb6; clear hrun hown hb6 hk6 hrN))
          go_meet
          exact ⟨by show OBn _ _ _ _ _ _; rw [EL.out, EB.out]; exact HO.out, hacc⟩
        by_cases e7 : f.k = 7
        · have h7 := HK7.out e7
          have hcd : IntKind.u8.wrap f.cd = f.cd := by rw [IntKind.wrap_u8']; omega
          have EB : Hid (Fm.body f = Fm.head f ++ [f.cd]) := show _ = _ by rw [HBL.out]; unfold Fm.flds; rw [if_neg (by omega), if_neg (by omega), if_neg (by omega), if_neg (by omega), if_neg (by omega)]
          have EL : Hid ((Fm.body f).length = 28 + 1) := show _ = _ by rw [EB.out, List.length_append, hh28]; rfl
          have HO' := Lib.hid (show OBn (wc.alloc (.cells #[.int .u8 f.cd] 5)) (w.heap.size + 1) 5 _ 28 (Fm.head f) from HO.out.alloc _)
          have hr1 : RB (wc.alloc (.cells #[.int .u8 f.cd] 5)) (wc.alloc (.cells #[.int .u8 f.cd] 5)).heap.size (some ⟨wc.heap.size, 0, none⟩) 1 [f.cd] := (rb_row wc 5 [f.cd] 1 rfl).more (by simp)
          obtain ⟨v6, w6, hrun, hown, hb6, hk6⟩ := app_own19 (c := 1) (b2 := 0) HO'.out hr1 (by omega) (Nat.le_trans SZ3.out (by simp))
          have HRUN := Lib.hid hrun
          have HOWN := Lib.hid hown
          have HB7 := Lib.hid ((hacc.alloc SZ3.out (.cells #[.int .u8 f.cd] 5)).trans hb6)
          clear hrun hown hb6 hk6 hr1
          go_wp2_with (at_builtin; refine Lib.wpList_append_run _ rfl _ _ 28 28 rfl _ (.slice (some ⟨wc.heap.size, 0, none⟩) 1 1) rfl rfl _ _ HRUN.out ?_)
          go_meet
          exact ⟨by show OBn _ _ _ _ _ _; rw [EL.out, EB.out]; exact HOWN.out, HB7.out⟩
        by_cases e1 : f.k = 1 ∨ f.k = 5
        · have EB : Hid (Fm.body f = Fm.head f ++ Fm.num 8 f.tot ++ f.sum) := show _ = _ by rw [HBL.out]; unfold Fm.flds; rw [if_pos e1, List.append_assoc]
          have EL : Hid ((Fm.body f).length = 28 + 8 + 32) := show _ = _ by rw [EB.out, List.length_append, List.length_append, hh28, Fm.num_len, hl.2]
          have FK := Lib.hid (fun W (h : Below (w.heap.size + 1) wc W) => show W.cell? ⟨w.heap.size, 20, none⟩ = some (.int .u64 (f.tot : Int)) from (FB.of (bF3.out.below h (Nat.lt_succ_self _)) hl).c20)
          have SUM := Lib.hid (fun W (h : Below (w.heap.size + 1) wc W) => rb_sum (bF3.out.below h (Nat.lt_succ_self _)) hl (show w.heap.size < W.heap.size from Nat.lt_of_lt_of_le (Nat.lt_succ_self _) (Nat.le_trans SZ3.out h.size)))
          have E1 : ∃ q : Unit, True := ⟨(), trivial⟩
          rcases e1 with e1 | e1
          all_goals (
            go_upto_region 10 with (fail)
            replace hacc : Below (w.heap.size + 1) wc wc.drew := (Below.refl _ _).drew
            replace HO := Lib.hid (show OBn wc.drew (w.heap.size + 1) 5 _ 28 (Fm.head f) from World.ownsRow.drew HO.out)
            go_region_law (first
              | (go_simp; go_at_call 29; (with_reducible refine (NT.out _).mono ?_); rintro e wN ⟨vN, rfl, hoN, hbN⟩; have HN := Lib.hid hoN; replace HO := Lib.hid (HO.out.later hbN); replace hacc := bthen' hacc hbN SZ3.out; have zz := FK.out _ hacc; clear hoN hbN)
              | (obtain ⟨AN, cN, eN, hrN, _, _⟩ := OBn.slice HN.out; obtain ⟨v6, w6, hrun, hown, hb6, hk6⟩ := app_own19 (c := cN) (b2 := 0) HO.out hrN (by omega) (Nat.le_trans SZ3.out hacc.size); rw [← eN] at hrun; refine step_append_run19 rfl (.tmp 46) (.tmp 49) 28 28 rfl _ _ (by simp [Act.eval]) (by simp [Act.eval]) hrun ?_; replace HO := Lib.hid hown; replace hacc := hacc.trans hb6; have zz := FK.out _ hacc; clear hrun hown hb6 hk6)
              | (obtain ⟨v6, w6, hrun, hown, hb6, hk6⟩ := app_own19 (c := 32) (b2 := 0) HO.out (SUM.out _ hacc) (by omega) (Nat.le_trans SZ3.out hacc.size); refine step_append_run19 rfl (.tmp 50) (.tmp 52) 28 28 rfl _ _ (by simp [Act.eval]) (by simp [Act.eval]) hrun ?_; replace HO := Lib.hid hown; replace hacc := hacc.trans hb6; have zz := FK.out _ hacc; clear hrun hown hb6 hk6))
            all_goals (
              go_wp2
              go_meet
              exact ⟨by show OBn _ _ _ _ _ _; rw [EL.out, EB.out]; exact HO.out, hacc⟩))
        by_cases e3 : f.k = 3
        · have h3 := HK3.out e3
          have EB : Hid (Fm.body f = Fm.head f ++ Fm.num 8 f.off ++ f.xs) := show _ = _ by rw [HBL.out]; unfold Fm.flds; rw [if_neg e1, if_neg e2, if_pos e3, List.append_assoc]
          have EL : Hid ((Fm.body f).length = 28 + 8 + f.n) := show _ = _ by rw [EB.out, List.length_append, List.length_append, hh28, Fm.num_len, DF.out.1]
          have FK := Lib.hid (fun W (h : Below (w.heap.size + 1) wc W) => show W.cell? ⟨w.heap.size, 19, none⟩ = some (.int .u64 (f.off : Int)) ∧ W.cell? ⟨w.heap.size, 53, none⟩ = some (.slice f.A f.n f.c) from ⟨(FB.of (bF3.out.below h (Nat.lt_succ_self _)) hl).c19, (FB.of (bF3.out.below h (Nat.lt_succ_self _)) hl).c53⟩)
          have DAT := Lib.hid (fun W (h : Below (w.heap.size + 1) wc W) => (DF.out.below (h.mono (Nat.le_succ _))).more (Nat.le_trans (Nat.le_succ _) (Nat.le_trans SZ3.out h.size)))
          go_upto_region 14 with (fail)
          replace hacc : Below (w.heap.size + 1) wc wc.drew := (Below.refl _ _).drew
          replace HO := Lib.hid (show OBn wc.drew (w.heap.size + 1) 5 _ 28 (Fm.head f) from World.ownsRow.drew HO.out)
          go_region_law (first
            | (go_simp; go_at_call 29; (with_reducible refine (NO.out _).mono ?_); rintro e wN ⟨vN, rfl, hoN, hbN⟩; have HN := Lib.hid hoN; replace HO := Lib.hid (HO.out.later hbN); replace hacc := bthen' hacc hbN SZ3.out; have zz := FK.out _ hacc; clear hoN hbN)
            | (obtain ⟨AN, cN, eN, hrN, _, _⟩ := OBn.slice HN.out; obtain ⟨v6, w6, hrun, hown, hb6, hk6⟩ := app_own19 (c := cN) (b2 := 0) HO.out hrN (by omega) (Nat.le_trans SZ3.out hacc.size); rw [← eN] at hrun; refine step_append_run19 rfl (.tmp 63) (.tmp 66) 28 28 rfl _ _ (by simp [Act.eval]) (by simp [Act.eval]) hrun ?_; replace HO := Lib.hid hown; replace hacc := hacc.trans hb6; have zz := FK.out _ hacc; clear hrun hown hb6 hk6)
            | (obtain ⟨v6, w6, hrun, hown, hb6, hk6⟩ := app_own19 (c := f.c) (b2 := 0) HO.out (DAT.out _ hacc) (by omega) (Nat.le_trans SZ3.out hacc.size); refine step_append_run19 rfl (.tmp 67) (.tmp 69) 28 28 rfl _ _ (by simp [Act.eval]) (by simp [Act.eval]) hrun ?_; replace HO := Lib.hid hown; replace hacc := hacc.trans hb6; have zz := FK.out _ hacc; clear hrun hown hb6 hk6))
          all_goals (
            go_wp2
            go_meet
            exact ⟨by show OBn _ _ _ _ _ _; rw [EL.out, EB.out]; exact HO.out, hacc⟩)
        · have e4 : f.k = 4 := by omega
          have h4 := (HK4.out e4).1
          have EB : Hid (Fm.body f = Fm.head f ++ Fm.num 8 f.off ++ Fm.rgs f.rs) := show _ = _ by rw [HBL.out]; unfold Fm.flds; rw [if_neg e1, if_neg e2, if_neg e3, if_pos e4, List.append_assoc]
          have EL : Hid ((Fm.body f).length = 28 + 8 + 16 * f.m) := show _ = _ by rw [EB.out, List.length_append, List.length_append, hh28, Fm.num_len, Fm.rgs_len, RF.out.1.1]
          have HRL := Lib.hid RF.out.1.1
          go_wp2_with (first
            | (go_at_call 29; (with_reducible refine (NO.out _).mono ?_); rintro e wN ⟨vN, rfl, hoN, hbN⟩; have HN := Lib.hid hoN; replace HO := Lib.hid (HO.out.later hbN); replace hacc := bthen' hacc hbN SZ3.out; clear hoN hbN)
            | (at_builtin; obtain ⟨AN, cN, eN, hrN, _, _⟩ := OBn.slice HN.out; subst eN; obtain ⟨v6, w6, hrun, hown, hb6, hk6⟩ := app_own19 (c := cN) (b2 := 0) HO.out hrN (by omega) (Nat.le_trans SZ3.out hacc.size); refine Lib.wpList_append_run _ rfl _ _ 28 28 rfl _ (.slice AN 8 cN) rfl rfl _ _ hrun ?_; replace HO := Lib.hid hown; replace hacc := hacc.trans hb6; clear hrun hown hb6 hk6 hrN))
          generalize hpp : Fm.head f ++ Fm.num 8 f.off = pp at *
          have HPP := Lib.hid hpp
          clear hpp
          have HA0 := Lib.hid hacc
          clear HN
          generalize f.RA = RA1 at *
          go_loopw [5, 6] (fun v i W => ∃ j : Nat, j ≤ f.m ∧ i = .int .i64 j ∧ Hid (OBn W (w.heap.size + 1) 5 v (28 + 8 + 16 * j) (pp ++ Fm.rgs (f.rs.take j))) ∧ Hid (Below (w.heap.size + 1) wc W)) (fun _ i _ => f.m - (intOf i).toNat)
          case atStart => exact ⟨0, Nat.zero_le _, rfl, by show OBn _ _ _ _ _ _; simpa [Fm.rgs] using HO.out, HA0.out⟩
          case round =>
            obtain ⟨j, hj, rfl, HO, HB⟩ := hrel
            clear hacc HA0
            have SZ4 := Lib.hid (Nat.le_trans SZ3.out HB.out.size)
            have c54' : wr.cell? ⟨w.heap.size, 54, none⟩ = some (.slice RA1 f.m f.rc) := (HB.out.cell (p := ⟨w.heap.size, 54, none⟩) (Nat.lt_succ_self _)).trans c54
            by_cases hlt : j < f.m
            · have hlt' : (j : Int) < f.m := by omega
              obtain ⟨b1, o1, p1, rfl, hb1, hp1, pa, pb, r1, r2⟩ := RF.out.at_ hlt
              obtain ⟨x1, y1⟩ := p1
              simp only at pa pb r1 r2
              have TK := Lib.hid (show f.rs.take (j + 1) = f.rs.take j ++ [(x1, y1)] by rw [List.take_add_one, hp1]; rfl)
              have NA := Lib.hid (show ∀ W, Calls Try.prog 29 #[.int .u64 (x1 : Int), .int .i64 8] W fun e w' => ∃ v, e = .returned v ∧ OBn w' W.heap.size 5 v 8 (Fm.num 8 x1) ∧ Below W.heap.size W w' from fun W => refnumber_any x1 8 W pa (by omega) (by omega))
              have NB := Lib.hid (show ∀ W, Calls Try.prog 29 #[.int .u64 (y1 : Int), .int .i64 8] W fun e w' => ∃ v, e = .returned v ∧ OBn w' W.heap.size 5 v 8 (Fm.num 8 y1) ∧ Below W.heap.size W w' from fun W => refnumber_any y1 8 W pb (by omega) (by omega))
              have FK := Lib.hid (fun W (h : Below (w.heap.size + 1) wr W) => show W.cell? ⟨w.heap.size, 54, none⟩ = some (.slice (some ⟨b1, o1, none⟩) f.m f.rc) ∧ W.cell? ⟨b1, o1 + j * 2, none⟩ = some (.int .u64 (x1 : Int)) ∧ W.cell? ⟨b1, o1 + j * 2 + 1, none⟩ = some (.int .u64 (y1 : Int)) from ⟨((HB.out.trans h).cell (p := ⟨w.heap.size, 54, none⟩) (Nat.lt_succ_self _)).trans c54, ((HB.out.trans h).cell (p := ⟨b1, o1 + j * 2, none⟩) (Nat.lt_succ_of_lt hb1)).trans r1, ((HB.out.trans h).cell (p := ⟨b1, o1 + j * 2 + 1, none⟩) (Nat.lt_succ_of_lt hb1)).trans r2⟩)
              clear hp1 r1 r2 pa pb NO NT
              go_upto_region 20 with (fail)
              have hacc : Below (w.heap.size + 1) wr wr.drew := (Below.refl _ _).drew
              obtain ⟨z17, z18, z19⟩ := FK.out _ hacc
              replace HO := Lib.hid (show OBn wr.drew (w.heap.size + 1) 5 _ (28 + 8 + 16 * j) (pp ++ Fm.rgs (f.rs.take j)) from World.ownsRow.drew HO.out)
              go_region_law (first
                | (go_simp; go_at_call 29; (with_reducible refine (NA.out _).mono ?_); rintro e wS ⟨vS, rfl, hoS, hbS⟩; have HS := Lib.hid hoS; replace HO := Lib.hid (HO.out.later hbS); replace hacc := bthen' hacc hbS SZ4.out; obtain ⟨z17, z18, z19⟩ := FK.out _ hacc; (try replace HR := Lib.hid (HR.out.later hbS)); clear hoS hbS)
                | (go_simp; go_at_call 29; (with_reducible refine (NB.out _).mono ?_); rintro e wR ⟨vR, rfl, hoR, hbR⟩; have HR := Lib.hid hoR; have LR := Lib.hid (fun k hk => (World.ownsRow.lt HO.out k hk).2); replace HO := Lib.hid (HO.out.later hbR); replace hacc := bthen' hacc hbR SZ4.out; obtain ⟨z17, z18, z19⟩ := FK.out _ hacc; (try replace HS := Lib.hid (HS.out.later hbR)); clear hoR hbR)
                | (obtain ⟨AS, cS, eS, hrS, _, _⟩ := OBn.slice HS.out; obtain ⟨v6, w6, hrun, hown, hb6, hk6⟩ := app_own19 (c := cS) (b2 := 0) HO.out hrS (by omega) (Nat.le_trans SZ4.out hacc.size); rw [← eS] at hrun; refine step_append_run19 rfl (.tmp 85) (.tmp 92) 28 28 rfl _ _ (by simp [Act.eval, Act.put]) (by simp [Act.eval, Act.put]) hrun ?_; (try replace HR := Lib.hid (hk6 _ _ _ _ HR.out LR.out)); replace HO := Lib.hid hown; replace hacc := hacc.trans hb6; obtain ⟨z17, z18, z19⟩ := FK.out _ hacc; clear hrun hown hb6 hk6 hrS eS)
                | (obtain ⟨AR, cR, eR, hrR, _, _⟩ := OBn.slice HR.out; obtain ⟨v7, w7, hrun, hown, hb7, hk7⟩ := app_own19 (c := cR) (b2 := 0) HO.out hrR (by omega) (Nat.le_trans SZ4.out hacc.size); rw [← eR] at hrun; refine step_append_run19 rfl (.tmp 93) (.tmp 100) 28 28 rfl _ _ (by simp [Act.eval]) (by simp [Act.eval]) hrun ?_; have HO7 := Lib.hid hown; replace hacc := hacc.trans hb7; clear hrun hown hb7 hk7 hrR eR))
              all_goals go_wp2
              all_goals go_roundw
              all_goals first
                | exact ⟨j + 1, by omega, by go_num, by show OBn _ _ _ _ _ _; rw [TK.out, Fm.rgs_app, ← List.append_assoc, ← List.append_assoc, show 28 + 8 + 16 * (j + 1) = 28 + 8 + 16 * j + 8 + 8 by omega]; exact HO7.out, HB.out.trans hacc⟩
                | (simp [intOf]; omega)
            · obtain rfl : j = f.m := by omega
              have htk : f.rs.take f.m = f.rs := List.take_of_length_le (by rw [HRL.out]; exact Nat.le_refl _)
              rw [htk] at HO
              go_wp2
              go_meet
              exact ⟨by show OBn _ _ _ _ _ _; rw [EL.out, EB.out]; exact HO.out, HB.out⟩
      case rest =>
        obtain ⟨HO, HB⟩ := hcut
        have HB7 := Lib.hid (HB6.out.trans (HB.out.mono (Nat.le_succ _)))
        have hbl : (Fm.body f).length ≤ 500000 := by
          have h : (Fm.body f).length = (Fm.head f).length + (Fm.flds f).length := List.length_append
          rw [h, hh28]
          unfold Fm.flds
          (repeat' split) <;> simp only [List.length_append, Fm.num_len, hl.2, List.length_cons, List.length_nil, Fm.rgs_len] <;> (try have := DF.out.1) <;> (try have := RF.out.1.1) <;> (try (have := HK3.out (by assumption))) <;> (try (have := HK4.out (by assumption))) <;> omega
        obtain ⟨AO, cO, eO, hrO, _, _⟩ := OBn.slice HO.out
        have SE := Lib.hid (refseal_any AO (Fm.body f).length cO (Fm.body f) wc hrO HBY.out hbl)
        subst eO
        clear NO NT bF3 SZ3 RF DF HK3 HK4 HK7 HO HB HB6 hrO
        go_wp2_with (go_at_call 18; (with_reducible refine SE.out.mono ?_); rintro e w9 ⟨v9, rfl, ho9, hb9⟩; have HO9 := Lib.hid ho9; have HB9 := Lib.hid (bthen' HB7.out hb9); clear ho9 hb9)
        go_ret2
        exact ⟨_, rfl, fun _ => OBn.low HO9.out HB7.out.size, fun h => absurd rfl h, HB9.out⟩
end Go.Proofs.Ytjiafpmcibokbaa
