/- THE LAW OF LAYER 14: its steps; a disk beside a box; short, far. gen_l14e.py -/
import Derived.Test.YthgbncpiehcghaaGreatDoorGt1
import Derived.Test.YthgbncpiehcghaaGreatDoorGa2
import Derived.Test.YthgbncpiehcghaaGreatDoorN14q
namespace Go.Proofs.YthgbncpiehcghaaGreatDoor
set_option linter.unusedVariables false
open Go Go.RowKit Go.Maps
set_option maxRecDepth 100000
set_option maxHeartbeats 8000000
open Nt (Tr Nd WF Ps Path at_ cnt used txt Dd Dk)
theorem DkR.oth {w0 w w' : World} {db K r : Nat} {M : Dk} {U : TypeId} {cs : Array Value} (h : DkR (Bs.of w0) w db M K) (ho : Oth r w w') (hb : BX w r U cs) (hU : ¬ DiskObj (.cells cs U (0, 0))) (hu : U ≠ 5) (hr : w0.heap.size ≤ r) : DkR (Bs.of w0) w' db M K := by
  obtain ⟨dt, vt, v, l, ad, mb, ad', mb', h, e⟩ := h
  have hne : ∀ k o, w.heap[k]? = some o → DiskObj o → k ≠ r := fun k o hk hd e => by
    subst e
    unfold BX at hb
    rw [hb] at hk
    cases hk
    exact hU hd
  have hkx : KeepX (fun o => o = .cells cs U (0, 0)) w w' := KeepX.ofOth ho hb rfl
  refine ⟨dt, vt, v, l, ad, mb, ad', mb', ⟨h.low.trans (ho.below hr h.low.size), h.box.oth ho (hne _ _ h.box (.inr ⟨_, _, _, rfl, .inl rfl⟩)), h.dlow, h.repD.kept fun k hk hl => ho.2.2.2.2 k hl ?_, h.repV.kept fun k hk hl => ho.2.2.2.2 k hl ?_, h.lowD, h.lowV, h.apart, own_keep13 h.row fun k hk => ho.2.2.2.2 k (World.ownsRow.lt h.row k hk).2 ?_, fun y hy => (h.data y hy).keptX hkx fun cs' fz e => by cases e; exact hu rfl, h.since.push (Keep.ofOth (F := fun k => k = r) ho rfl) (by rintro k rfl; exact .inr hr), h.own⟩, e⟩
  · obtain ⟨o, h1, h2⟩ := h.repD.sort hk
    exact hne k o h1 (.inl h2)
  · obtain ⟨o, h1, h2⟩ := h.repV.sort hk
    exact hne k o h1 (.inl h2)
  · obtain ⟨cs', h1⟩ := own_block13 h.row hk
    exact hne k _ h1 (.inr ⟨_, _, _, rfl, .inr rfl⟩)
/-- A step's cells. -/
abbrev SqC (wh kd : Int) (p q : ByteArray) (a b c d : Int) (A : Option Addr) (n k : Nat) (kp tn : Int) : Array Value :=
  #[.int .u8 wh, .int .i64 kd, .string p, .string q, .int .i64 a, .int .i64 b, .int .i64 c, .int .i64 d, .slice A n k, .int .i64 kp, .int .i64 tn]
structure Sq where
  wh : Int
  y : Dd
  kp : Int
  tn : Int
def Sq.cs (x : Sq) : Array Value := SqC x.wh x.y.kd x.y.p x.y.q x.y.a x.y.b x.y.c x.y.d x.y.A x.y.n x.y.k x.kp x.tn
def Sq.far (x : Sq) : Bool := decide (400 < x.y.p.size) || decide (400 < x.y.q.size) || decide (4200 < x.y.n)
/-- A slice of steps, in blocks below B, with their bytes. -/
def QS (w : World) (B : Nat) (A : Option Addr) (n : Nat) (l : List Sq) : Prop :=
  (l.length = n ∧ (0 < n → ∃ b o, A = some ⟨b, o, none⟩ ∧ b < B ∧ ∀ (j : Nat) x, l[j]? = some x → ∀ (i : Nat) u, x.cs[i]? = some u → w.cell? ⟨b, o + j * 11 + i, none⟩ = some u)) ∧ ∀ x ∈ l, RB w B x.y.A x.y.n x.y.xs
section
variable {w w' : World} {B n : Nat} {A : Option Addr} {l : List Sq}
theorem QS.below (h : QS w B A n l) (hb : Below B w w') : QS w' B A n l :=
  ⟨⟨h.1.1, fun hn => by
    obtain ⟨b, o, e, hlt, hc⟩ := h.1.2 hn
    exact ⟨b, o, e, hlt, fun j x hj i v hv => (hb.cell (p := ⟨b, o + j * 11 + i, none⟩) hlt).trans (hc j x hj i v hv)⟩⟩, fun y hy => (h.2 y hy).below hb⟩
theorem QS.nil : QS w B A 0 [] := ⟨⟨rfl, fun h => absurd h (by omega)⟩, fun y hy => by cases hy⟩
theorem QS.take (h : QS w B A n l) {k : Nat} (hk : k ≤ n) : QS w B A k (l.take k) :=
  ⟨⟨by rw [List.length_take, h.1.1]; omega, fun hn => by
    obtain ⟨b, o, e, hlt, hc⟩ := h.1.2 (by omega)
    refine ⟨b, o, e, hlt, fun j x hj i v hv => hc j x ?_ i v hv⟩
    rw [List.getElem?_take] at hj
    split at hj
    · exact hj
    · cases hj⟩, fun y hy => h.2 y (List.mem_of_mem_take hy)⟩
theorem QS.at_ (h : QS w B A n l) {j : Nat} (hj : j < n) : ∃ b o x, A = some ⟨b, o, none⟩ ∧ b < B ∧ l[j]? = some x ∧ RB w B x.y.A x.y.n x.y.xs ∧ ∀ (i : Nat) u, x.cs[i]? = some u → w.cell? ⟨b, o + j * 11 + i, none⟩ = some u := by
  obtain ⟨b, o, e, hlt, hc⟩ := h.1.2 (by omega)
  have hl : j < l.length := by rw [h.1.1]; exact hj
  exact ⟨b, o, l[j], e, hlt, List.getElem?_eq_getElem hl, h.2 _ (List.getElem_mem hl), hc j _ (List.getElem?_eq_getElem hl)⟩
end
theorem short14_any (A : Option Addr) (n k : Nat) (w : World) (hk : n ≤ k) (hm : k ≤ maxLen) :
    Calls Tryz.prog 22 #[.slice A n k] w fun e w' => e = .returned (.slice A (min n 30) k) ∧ w = w' := by
  obtain ⟨m, hmm⟩ : ∃ m : Nat, m = min n 30 := ⟨_, rfl⟩
  have e1 : min (n : Int) 30 = (m : Int) := by omega
  have e2 : m ≤ n := by omega
  rw [← hmm]
  clear hmm
  go_enter Tryz.func22, Tryz.ntmps22
  go_wp2
  go_ret
  exact ⟨rfl, rfl⟩
theorem far14_any (A : Option Addr) (n k B : Nat) (l : List Sq) (w : World) (hl : QS w B A n l) (hB : B ≤ w.heap.size) (hk : n ≤ k) (hm : k ≤ maxLen) :
    Calls Tryz.prog 20 #[.slice A n k] w fun e w' => e = .returned (.bool ((l.take 30).any Sq.far)) ∧ Below w.heap.size w w' := by
  have ks := Lib.hid (short14_any A n k w hk hm)
  have hM := hl.take (k := min n 30) (by omega)
  have hll := hl.1.1
  have htk : l.take (min n 30) = l.take 30 := by
    by_cases h : n ≤ 30
    · rw [List.take_of_length_le (by omega), List.take_of_length_le (by omega)]
    · rw [show min n 30 = 30 from by omega]
  rw [htk] at hM
  have hN40 : min n 30 ≤ 30 := by omega
  generalize l.take 30 = M at *
  generalize min n 30 = N at *
  have hML := hM.1.1
  have HM := Lib.hid hM
  clear hl htk hM hll
  go_enter Tryz.func20, Tryz.ntmps20
  go_wp2_with (go_at_call 22; refine ks.out.mono ?_; rintro e w1 ⟨rfl, rfl⟩)
  go_loopw [8] (fun i W => ∃ j : Nat, j ≤ N ∧ i = .int .i64 j ∧ Hid (Below w.heap.size w W) ∧ Hid ((M.take j).any Sq.far = false)) (fun i _ => N - (intOf i).toNat)
  case atStart => exact ⟨0, Nat.zero_le _, rfl, Below.refl _ _, by show _ = _; simp⟩
  case round =>
    obtain ⟨j, hj, rfl, HB, HF⟩ := hrel
    by_cases hlt : j < N
    · have hlt' : (j : Int) < N := by omega
      obtain ⟨b, o, x, rfl, hb, hy, _, hc⟩ := (HM.out.below (HB.out.mono hB)).at_ hlt
      obtain ⟨wh, ⟨kd, p, q, ma, mb, mc, md, A', n', k', xs'⟩, kp, tn⟩ := x
      have c0 : wr.cell? ⟨b, o + j * 11, none⟩ = some (.int .u8 wh) := hc 0 _ rfl
      have c1 : wr.cell? ⟨b, o + j * 11 + 1, none⟩ = some (.int .i64 kd) := hc 1 _ rfl
      have c2 : wr.cell? ⟨b, o + j * 11 + 2, none⟩ = some (.string p) := hc 2 _ rfl
      have c3 : wr.cell? ⟨b, o + j * 11 + 3, none⟩ = some (.string q) := hc 3 _ rfl
      have c4 : wr.cell? ⟨b, o + j * 11 + 4, none⟩ = some (.int .i64 ma) := hc 4 _ rfl
      have c5 : wr.cell? ⟨b, o + j * 11 + 5, none⟩ = some (.int .i64 mb) := hc 5 _ rfl
      have c6 : wr.cell? ⟨b, o + j * 11 + 6, none⟩ = some (.int .i64 mc) := hc 6 _ rfl
      have c7 : wr.cell? ⟨b, o + j * 11 + 7, none⟩ = some (.int .i64 md) := hc 7 _ rfl
      have c8 : wr.cell? ⟨b, o + j * 11 + 8, none⟩ = some (.slice A' n' k') := hc 8 _ rfl
      have c9 : wr.cell? ⟨b, o + j * 11 + 9, none⟩ = some (.int .i64 kp) := hc 9 _ rfl
      have c10 : wr.cell? ⟨b, o + j * 11 + 10, none⟩ = some (.int .i64 tn) := hc 10 _ rfl
      have hts : (M.take (j + 1)).any Sq.far = (decide (400 < p.size) || decide (400 < q.size) || decide (4200 < n')) := by
        rw [List.take_add_one, hy, List.any_append, HF.out]
        simp [Sq.far]
      have HT := Lib.hid hts
      have HY := Lib.hid (List.mem_of_getElem? hy)
      have HB2 := Lib.hid (HB.out.trans ((below_new wr (.cells (SqC wh kd p q ma mb mc md A' n' k' kp tn) 62)).mono HB.out.size))
      clear hc hts hy
      by_cases h1 : (400 : Int) < p.size
      · have HR : Hid (M.any Sq.far = true) := by
          show _ = _
          exact List.any_eq_true.2 ⟨_, HY.out, by rw [show Sq.far _ = (decide (400 < p.size) || decide (400 < q.size) || decide (4200 < n')) from rfl]; have k := (by omega : 400 < p.size); simp [k]⟩
        go_wp2
        go_ret
        exact ⟨by rw [HR.out]; rfl, HB2.out⟩
      · by_cases h2 : (400 : Int) < q.size
        · have HR : Hid (M.any Sq.far = true) := by
            show _ = _
            exact List.any_eq_true.2 ⟨_, HY.out, by rw [show Sq.far _ = (decide (400 < p.size) || decide (400 < q.size) || decide (4200 < n')) from rfl]; have k := (by omega : 400 < q.size); simp [k]⟩
          go_wp2
          go_ret
          exact ⟨by rw [HR.out]; rfl, HB2.out⟩
        · by_cases h3 : (4200 : Int) < n'
          · have HR : Hid (M.any Sq.far = true) := by
              show _ = _
              exact List.any_eq_true.2 ⟨_, HY.out, by rw [show Sq.far _ = (decide (400 < p.size) || decide (400 < q.size) || decide (4200 < n')) from rfl]; have k := (by omega : 4200 < n'); simp [k]⟩
            go_wp2
            go_ret
            exact ⟨by rw [HR.out]; rfl, HB2.out⟩
          · have HF2 : Hid ((M.take (j + 1)).any Sq.far = false) := by
              show _ = _
              rw [HT.out]
              have k1 : ¬ 400 < p.size := by omega
              have k2 : ¬ 400 < q.size := by omega
              have k3 : ¬ 4200 < n' := by omega
              simp [k1, k2, k3]
            go_wp2
            go_roundw
            case rel => exact ⟨j + 1, by omega, by go_num, HB2.out, HF2.out⟩
            case measure => simp [intOf]; omega
    · have hlt' : ¬ (j : Int) < N := by omega
      have e : j = N := by omega
      subst e
      have HR : Hid (M.any Sq.far = false) := by
        show _ = _
        have := HF.out
        rwa [List.take_of_length_le (by omega)] at this
      go_wp2
      go_ret
      exact ⟨by rw [HR.out]; rfl, HB.out⟩
end Go.Proofs.YthgbncpiehcghaaGreatDoor
/- WALKS OF LAYER 14, NINTH PART: Do. -/
namespace Go.Proofs.YthgbncpiehcghaaGreatDoor
set_option linter.unusedVariables false
open Go Go.RowKit Go.Maps
set_option maxRecDepth 100000
set_option maxHeartbeats 4000000
open Nt (Tr Nd WF Ps Path at_ cnt used Dd Dk ap)
theorem do14_any {w0 : Bs} {w : World} {db K : Nat} {M : Dk} (h : DkR w0 w db M K) (hM : M.ok K) (hK : K ≤ 90000) (hfu : M.fu ≤ 9223372036854775807) (hlen : M.L.length ≤ 1000) (y : Dd) (hd : RB w w.heap.size y.A y.n y.xs) (hs : y.p.size ≤ 1000 ∧ y.q.size ≤ 1000 ∧ y.n ≤ 5000) :
    Calls Tryz.prog 70 #[.pointer (some ⟨db, 0, none⟩), .agg (DdC y)] w fun e w' => e = .returned (.int .i64 (M.dok y.er).2) ∧ Hid (DkR w0 w' db (M.dok y.er).1 (K + 301) ∧ KeepX DiskObj w w') := by
  obtain ⟨dt, vt, v, l, ad, mb, ad', mb', hm, hL⟩ := h
  have hb := below_new w (.cells (DdC y) 74)
  obtain ⟨W1, hW1⟩ : ∃ W, w.alloc (.cells (DdC y) 74) = W := ⟨_, rfl⟩
  have hbx : BX W1 w.heap.size 74 (DdC y) := by rw [← hW1]; exact BX.new _ _ _
  rw [hW1] at hb
  have h1 := hm.later hb
  have hdb : db < w.heap.size := hm.box.lt
  have km := Lib.hid (dmade_any h1.box)
  have kdk := Lib.hid (ddark_any h1.box)
  by_cases h0 : M.fu = 0
  · have hE : M.dok y.er = (M, 17) := by unfold Nt.Dk.dok; rw [if_pos h0]
    rw [hE]
    have g0 : (M.fu == 0) = true := by simp [h0]
    rw [g0] at kdk
    have HF : Hid (DkR w0 W1 db M (K + 301) ∧ KeepX DiskObj w W1) := ⟨⟨dt, vt, v, l, ad, mb, ad', mb', h1.more (by omega), hL⟩, KeepX.ofBelow hb⟩
    clear h1 hm hb hbx hE h0 g0 hM hd hL
    go_enter Tryz.func70, Tryz.ntmps70
    go_wp2_with (first
      | (go_at_call 30; refine kdk.out.mono ?_; rintro e w3 ⟨rfl, rfl⟩)
      | (go_at_call 78; refine km.out.mono ?_; rintro e w2 ⟨rfl, rfl⟩))
    go_ret
    exact ⟨rfl, HF.out⟩
  · have g0 : (M.fu == 0) = false := by simp [h0]
    rw [g0] at kdk
    have kb := Lib.hid (dburn_any h1.box hfu)
    have hE : M.dok y.er = if (ap M.V y.er).2 = 0 then (⟨M.D, (ap M.V y.er).1, M.L ++ [y.er], M.sy, Nt.burn M.fu⟩, 0) else (⟨M.D, M.V, M.L, M.sy, Nt.burn M.fu⟩, (ap M.V y.er).2) := by unfold Nt.Dk.dok; rw [if_neg h0]
    obtain ⟨R, hR⟩ : ∃ R, M.dok y.er = R := ⟨_, rfl⟩
    rw [hR] at hE ⊢
    have HR0 := Lib.hid hE
    have hap := ap_erT (y := y) hM.erV
    obtain ⟨A, c, rfl⟩ := own_shape14 hm.row
    have hd1 : RB W1 W1.heap.size y.A y.n y.xs := (hd.below hb).more hb.size
    have HD2 := Lib.hid (fun W (hx : BX W db 135 (DkC dt vt (.slice A l.length c) M.sy (Nt.burn M.fu))) (ho : Oth db W1 W) => h1.turned hx ho)
    have HRB := Lib.hid (fun W (ho : Oth db W1 W) => (hd1.oth13 (hd1.apart13 h1.box dk_u8) ho).more ho.2.2.2.1)
    have HBX := Lib.hid (fun W (ho : Oth db W1 W) => hbx.oth ho (by omega))
    have HKX := Lib.hid (fun W (ho : Oth db W1 W) => (KeepX.ofBelow hb : KeepX DiskObj w W1).trans (KeepX.ofOth ho h1.box disk_obj))
    have HWV := Lib.hid hM.wfV
    have HEV := Lib.hid hM.erV
    have HL := Lib.hid hL
    have HAP := Lib.hid hap
    have HLEN := Lib.hid (show l.length ≤ 1000 by have := congrArg List.length hL; rw [List.length_map] at this; omega)
    clear h1 hm hb hbx hE h0 g0 hM hd hd1 hL hap hR
    go_enter Tryz.func70, Tryz.ntmps70
    go_wp2_with (first
      | (go_at_call 117; refine kb.out.mono ?_; rintro e w4 ⟨rfl, hx4, ho4⟩)
      | (go_at_call 30; refine kdk.out.mono ?_; rintro e w3 ⟨rfl, rfl⟩)
      | (go_at_call 78; refine km.out.mono ?_; rintro e w2 ⟨rfl, rfl⟩))
    have h4 := (HD2.out w4 hx4 ho4).later (below_drewN (Below.refl w4.heap.size w4) 1)
    have hrb4 : RB w4.drew w4.drew.heap.size y.A y.n y.xs := HRB.out w4 ho4
    have ka := Lib.hid (apply_done HWV.out (by omega) h4.repV y (by omega) (by omega) hrb4 (by omega))
    have HVW := Lib.hid (fun W e (hd : Done (Fm M.V vt ad' mb') K w4.drew W vt (ap M.V y) e) => h4.viewed hd)
    have hbx4 := HBX.out w4 ho4
    have HK4 := Lib.hid (HKX.out w4 ho4)
    obtain ⟨z, hz⟩ : ∃ z, (ap M.V y).2 = z := ⟨_, rfl⟩
    have HZ := Lib.hid hz
    have HZ2 := Lib.hid (HAP.out.2.symm.trans hz)
    have HER := Lib.hid (show z ≠ 0 → (ap M.V y).1.er = M.V from fun hne => by
      rw [Nt.ap_err (by rw [hz]; exact hne)]
      exact HEV.out)
    obtain ⟨kd, p, q, a, b, c', d, A1, n, k, xs⟩ := y
    have z0 : w4.cell? ⟨w.heap.size, 0, none⟩ = some (.int .i64 kd) := hbx4.cell rfl
    have z1 : w4.cell? ⟨w.heap.size, 1, none⟩ = some (.string p) := hbx4.cell rfl
    have z2 : w4.cell? ⟨w.heap.size, 2, none⟩ = some (.string q) := hbx4.cell rfl
    have z3 : w4.cell? ⟨w.heap.size, 3, none⟩ = some (.int .i64 a) := hbx4.cell rfl
    have z4 : w4.cell? ⟨w.heap.size, 4, none⟩ = some (.int .i64 b) := hbx4.cell rfl
    have z5 : w4.cell? ⟨w.heap.size, 5, none⟩ = some (.int .i64 c') := hbx4.cell rfl
    have z6 : w4.cell? ⟨w.heap.size, 6, none⟩ = some (.int .i64 d) := hbx4.cell rfl
    have z7 : w4.cell? ⟨w.heap.size, 7, none⟩ = some (.slice A1 n k) := hbx4.cell rfl
    have c1 : w4.cell? ⟨db, 1, none⟩ = some (.pointer (some ⟨vt, 0, none⟩)) := hx4.cell rfl
    have HX4 := Lib.hid hx4
    have HB4 := Lib.hid hbx4
    have HRD := Lib.hid (fun W e (hd : Done (Fm M.V vt ad' mb') K w4.drew W vt (ap M.V ⟨kd, p, q, a, b, c', d, A1, n, k, xs⟩) e) => show RB W W.heap.size A1 n xs from RB.done hrb4 h4.repV hd)
    clear h4 hrb4 hx4 ho4 hbx4 hz
    by_cases hz0 : z = 0
    · subst hz0
      have HR1 : Hid (R = (⟨M.D, (ap M.V (Dd.er ⟨kd, p, q, a, b, c', d, A1, n, k, xs⟩)).1, M.L ++ [Dd.er ⟨kd, p, q, a, b, c', d, A1, n, k, xs⟩], M.sy, Nt.burn M.fu⟩, 0)) := by
        show R = _
        rw [HR0.out, if_pos HZ2.out]
      go_still_tail 5, (by kernel_rfl)
      change wpList _ _ _ _ _ w4.drew
      go_wp2_with (go_at_call 81; refine ka.out.mono ?_; rintro e w5 hd5; have hrb5 := HRD.out _ _ hd5; obtain ⟨e5, hx5, ad2, mb2, hm5⟩ := HVW.out _ _ hd5; rw [HZ.out] at e5; subst e5)
      have hbx5 := HB4.out.keptX (w' := w5) ((KeepX.ofBelow (below_drewN (Below.refl w4.heap.size w4) 1)).trans hx5) deed_tree
      have HM5 := Lib.hid hm5
      have HKF := Lib.hid ((HK4.out.trans (KeepX.ofBelow (below_drewN (Below.refl w4.heap.size w4) 1))).trans (hx5.weak (Y := DiskObj) fun o ho => .inl ho))
      have ALLS := Lib.hid (fun W (h : Below w5.heap.size w5 W) => show W.cell? ⟨db, 2, none⟩ = some (.slice A l.length c) ∧ W.cell? ⟨w.heap.size, 0, none⟩ = some (.int .i64 kd) ∧ W.cell? ⟨w.heap.size, 1, none⟩ = some (.string p) ∧ W.cell? ⟨w.heap.size, 2, none⟩ = some (.string q) ∧ W.cell? ⟨w.heap.size, 3, none⟩ = some (.int .i64 a) ∧ W.cell? ⟨w.heap.size, 4, none⟩ = some (.int .i64 b) ∧ W.cell? ⟨w.heap.size, 5, none⟩ = some (.int .i64 c') ∧ W.cell? ⟨w.heap.size, 6, none⟩ = some (.int .i64 d) ∧ W.cell? ⟨w.heap.size, 7, none⟩ = some (.slice A1 n k) from ⟨(HM5.out.box.later h).cell rfl, (hbx5.later h).cell rfl, (hbx5.later h).cell rfl, (hbx5.later h).cell rfl, (hbx5.later h).cell rfl, (hbx5.later h).cell rfl, (hbx5.later h).cell rfl, (hbx5.later h).cell rfl, (hbx5.later h).cell rfl⟩)
      have RUNS := Lib.hid (fun W (h : Below w5.heap.size w5 W) A2 k2 => push_deed (y := ⟨kd, p, q, a, b, c', d, A2, n, k2, xs⟩) (HM5.out.later (bthen h (below_new W (.cells #[.int .i64 kd, .string p, .string q, .int .i64 a, .int .i64 b, .int .i64 c', .int .i64 d, .slice A2 n k2] 74)))).row (BX.new W 74 #[.int .i64 kd, .string p, .string q, .int .i64 a, .int .i64 b, .int .i64 c', .int .i64 d, .slice A2 n k2]) (HM5.out.later (bthen h (below_new W (.cells #[.int .i64 kd, .string p, .string q, .int .i64 a, .int .i64 b, .int .i64 c', .int .i64 d, .slice A2 n k2] 74)))).low.size (by have := HLEN.out; omega))
      have kc := Lib.hid (fun W (h : Below w5.heap.size w5 W) => copied14_any ⟨kd, p, q, a, b, c', d, A1, n, k, xs⟩ W ((hrb5.below h).more h.size) (by show p.size ≤ _; omega) (by show q.size ≤ _; omega) (by show n ≤ _; omega))
      clear hbx5 hm5 hx5 hrb5
      have hacc : Below w5.heap.size w5 w5.drew := below_drewN (Below.refl w5.heap.size w5) 1
      obtain ⟨q2, y0, y1, y2, y3, y4, y5, y6, y7⟩ := ALLS.out _ hacc
      go_region_law (first
        | (obtain ⟨v7, w7, hrun, hown7, hgrow7, hblk7⟩ := RUNS.out _ hacc A2 k2; refine step_append_run14 rfl (.tmp 28) (.tmp 31) 65 65 rfl _ _ (by simp [Act.eval]) (by simp [Act.eval]) hrun ?_; have HOWN7 := Lib.hid hown7; have HGR7 := Lib.hid hgrow7; have HBK7 := Lib.hid hblk7; have hx7 := DM.grow_box (HM5.out.later (bthen hacc (below_new w6 (.cells #[.int .i64 kd, .string p, .string q, .int .i64 a, .int .i64 b, .int .i64 c', .int .i64 d, .slice A2 n k2] 74)))) hgrow7; have r2 := hx7.cell (j := 2) rfl; have rf := hx7.free 2; have HX7 := Lib.hid hx7; obtain ⟨A7, c7, rfl⟩ := own_shape14 hown7; clear hrun hown7 hgrow7 hblk7 hx7)
        | (go_simp; go_at_call 79; (with_reducible refine (kc.out _ hacc).mono ?_); rintro e w6 ⟨A2, k2, rfl, hrb6, hk6, hm6, hb6⟩; replace hacc := bthen hacc hb6; obtain ⟨q2, y0, y1, y2, y3, y4, y5, y6, y7⟩ := ALLS.out _ hacc; obtain ⟨qq2, yy0, yy1, yy2, yy3, yy4, yy5, yy6, yy7⟩ := ALLS.out _ (bthen hacc (below_new w6 (.cells #[.int .i64 kd, .string p, .string q, .int .i64 a, .int .i64 b, .int .i64 c', .int .i64 d, .slice A2 n k2] 74)))))
      all_goals
        go_wp2
        go_ret
        rw [HR1.out]
        have hW6 := bthen hacc (below_new w6 (.cells #[.int .i64 kd, .string p, .string q, .int .i64 a, .int .i64 b, .int .i64 c', .int .i64 d, .slice A2 n k2] 74))
        have hm6' := HM5.out.later hW6
        have hy6 : DOk (w6.alloc (.cells #[.int .i64 kd, .string p, .string q, .int .i64 a, .int .i64 b, .int .i64 c', .int .i64 d, .slice A2 n k2] 74)) ⟨kd, p, q, a, b, c', d, A2, n, k2, xs⟩ := ⟨hrb6.below (below_new w6 (.cells #[.int .i64 kd, .string p, .string q, .int .i64 a, .int .i64 b, .int .i64 c', .int .i64 d, .slice A2 n k2] 74)), ⟨hk6, hm6⟩, hs⟩
        have hlen7 : (l ++ [(⟨kd, p, q, a, b, c', d, A2, n, k2, xs⟩ : Dd)]).length = l.length + 1 := by simp
        have own7 : w7.ownsRow w0.heap.size 74 8 (.slice A7 (l.length + 1) c7) (l ++ [(⟨kd, p, q, a, b, c', d, A2, n, k2, xs⟩ : Dd)]).length (ddL (l ++ [⟨kd, p, q, a, b, c', d, A2, n, k2, xs⟩])) := by
          have h := HOWN7.out
          rwa [hlen7] at h ⊢
        have hfin := hm6'.pushed hy6 own7 HGR7.out (fun k hk => HBK7.out k (by cases A7 <;> exact hk)) (HX7.out.set 2 (.slice A7 (l.length + 1) c7)) ((Oth.refl _ _).setCell 2 _) HX7.out
        rw [HAP.out.1] at hfin
        exact ⟨rfl, ⟨dt, vt, _, l ++ [⟨kd, p, q, a, b, c', d, A2, n, k2, xs⟩], ad, mb, ad2, mb2, hfin, by rw [List.map_append, HL.out]; rfl⟩, ((HKF.out.trans (KeepX.ofBelow hW6)).trans ((row_grown hm6'.row HGR7.out).weak fun o ho => by
          obtain ⟨cs, fz, rfl⟩ := ho
          exact deed_obj)).trans (KeepX.setCell HX7.out disk_obj _)⟩
    · have gz : (z != 0) = true := by simp [hz0]
      have HR1 : Hid (R = (⟨M.D, M.V, M.L, M.sy, Nt.burn M.fu⟩, z)) := by
        show R = _
        rw [HR0.out, if_neg (by rw [HZ2.out]; exact hz0), HZ2.out]
      have HRET := Lib.hid hz0
      clear hz0
      go_still_tail 5, (by kernel_rfl)
      change wpList _ _ _ _ _ w4.drew
      go_wp2_with (go_at_call 81; refine ka.out.mono ?_; rintro e w5 hd5; obtain ⟨e5, hx5, ad2, mb2, hm5⟩ := HVW.out _ _ hd5; rw [HZ.out] at e5; subst e5)
      go_ret
      rw [HER.out HRET.out] at hm5
      rw [HR1.out]
      exact ⟨rfl, ⟨dt, vt, _, l, ad, mb, ad2, mb2, hm5, HL.out⟩, (HK4.out.trans (KeepX.ofBelow (below_drewN (Below.refl w4.heap.size w4) 1))).trans (hx5.weak fun o ho => .inl ho)⟩
end Go.Proofs.YthgbncpiehcghaaGreatDoor
/- WALKS OF LAYER 14, TENTH PART: Sync, Crash, Fuse, Dark, Syncs, Waits, View, Durable over the model. -/
namespace Go.Proofs.YthgbncpiehcghaaGreatDoor
set_option linter.unusedVariables false
open Go Go.RowKit Go.Maps
set_option maxRecDepth 100000
set_option maxHeartbeats 4000000
open Nt (Tr Nd WF Ps Path at_ cnt used Dd Dk ap)
theorem mf14 : ∀ (fn : Fn) (first cap : Array Value) (w : World), (Instr.makeFunc fn first cap).run Tryz.prog w = .ok (.func fn first cap) w := fun _ _ _ _ => rfl
theorem DL.cutAt {w : World} {A : Option Addr} {n r : Nat} {l : List Dd} (h : DL w A n l) (hr : r ≤ n) : DL w (Option.map (fun x => x.add (r * 8)) A) (n - r) (l.drop r) := by
  by_cases he : r = n
  · subst he
    rw [Nat.sub_self, List.drop_of_length_le (by rw [h.1]; exact Nat.le_refl _)]
    exact DL.nil
  · obtain ⟨b, o, e, _⟩ := h.2.1 (by omega)
    subst e
    have := h.suf (k := r) (by omega)
    rw [Option.map_some, Lib.add_plain]
    exact this
theorem sync14_any {w0 : Bs} {w : World} {db K : Nat} {M : Dk} (h : DkR w0 w db M K) (hM : M.ok K) (hK : K + 301 * M.L.length ≤ 90000) (hfu : M.fu ≤ 9223372036854775807) :
    Calls Tryz.prog 72 #[.pointer (some ⟨db, 0, none⟩)] w fun e w' => e = .returned (.tuple #[]) ∧ Hid (DkR w0 w' db M.sync (K + 301 * M.L.length) ∧ KeepX DiskObj w w') := by
  obtain ⟨dt, vt, v, l, ad, mb, ad', mb', hm, hL⟩ := h
  have km := Lib.hid (dmade_any hm.box)
  have kdk := Lib.hid (ddark_any hm.box)
  have hmf := mf14
  by_cases h0 : M.fu = 0
  · have hE : M.sync = M := by unfold Nt.Dk.sync; rw [if_pos h0]
    rw [hE]
    have g0 : (M.fu == 0) = true := by simp [h0]
    rw [g0] at kdk
    have HF : Hid (DkR w0 w db M (K + 301 * M.L.length) ∧ KeepX DiskObj w w) := ⟨⟨dt, vt, v, l, ad, mb, ad', mb', hm.more (by omega), hL⟩, KeepX.refl _ _⟩
    clear hm hE h0 g0 hM hL
    go_enter Tryz.func72, Tryz.ntmps72
    go_wp2_with (first
      | (go_at_call 30; refine kdk.out.mono ?_; rintro e w3 ⟨rfl, rfl⟩)
      | (go_at_call 78; refine km.out.mono ?_; rintro e w2 ⟨rfl, rfl⟩))
    refine bodyPost_ret (results_none rfl _ _ _) rfl ?_
    exact ⟨rfl, HF.out⟩
  · have g0 : (M.fu == 0) = false := by simp [h0]
    rw [g0] at kdk
    have kb := Lib.hid (dburn_any hm.box hfu)
    have hE : M.sync = ⟨Nt.all M.D M.L, M.V, [], IntKind.i64.wrap (M.sy + 1), Nt.burn M.fu⟩ := by unfold Nt.Dk.sync; rw [if_neg h0]
    rw [hE]
    have hll : l.length = M.L.length := by rw [← hL, List.length_map]
    obtain ⟨A, c, hv, hdl, hc1, hc2⟩ := own_dl hm.row hm.data
    subst hv
    obtain ⟨KD, hwd, hkd⟩ := hM.wfD
    have HD2 := Lib.hid (fun W (hx : BX W db 135 (DkC dt vt (.slice A l.length c) M.sy (Nt.burn M.fu))) (ho : Oth db w W) => hm.turned hx ho)
    have HKX := Lib.hid (fun W (ho : Oth db w W) => (KeepX.ofOth ho hm.box disk_obj : KeepX DiskObj w W))
    have HDL := Lib.hid (fun W (ho : Oth db w W) => hdl.kept (KeepX.ofOth (X := fun o => o = .cells (DkC dt vt (.slice A l.length c) M.sy M.fu) 135 (0, 0)) ho hm.box rfl) (fun cs fz e => by cases e) (fun cs fz e => by cases e))
    have HWD := Lib.hid (hwd.le (show KD ≤ K by omega))
    have HED := Lib.hid hM.er
    have HL := Lib.hid hL
    have HLL := Lib.hid hll
    have ke := Lib.hid (fun W (hd : DM w0 W db dt vt M.D M.V (.slice A l.length c) l M.sy (Nt.burn M.fu) K ad mb ad' mb') (hdl : DL W A l.length l) => each14_any hd HWD.out HED.out A l.length c l hdl ⟨hc1, hc2⟩ (by rw [hll]; omega))
    clear hm hE h0 g0 hM hL hdl hwd hkd hll
    go_enter Tryz.func72, Tryz.ntmps72
    go_wp2_with (first
      | (go_at_call 118; (with_reducible refine (ke.out _ HM4.out (HDL.out _ HO4.out)).mono ?_); rintro e w5 ⟨rfl, hx5, ad2, mb2, hm5⟩; have c2 := hm5.box.cell (j := 2) rfl; have f2 := hm5.box.free 2; have HM5 := Lib.hid hm5; have HX5 := Lib.hid hx5; have HM6 := Lib.hid (hm5.empty (sy2 := M.sy) (fu2 := Nt.burn M.fu) (hm5.box.set 2 (.slice none 0 0)) ((Oth.refl _ _).setCell 2 _)); have c3 := HM6.out.box.cell (j := 3) rfl; have f3 := HM6.out.box.free 3; clear hm5 hx5)
      | (go_at_call 117; refine kb.out.mono ?_; rintro e w4 ⟨rfl, hx4, ho4⟩; have HM4 := Lib.hid (HD2.out _ hx4 ho4); have HO4 := Lib.hid ho4; have d2 := hx4.cell (j := 2) rfl; clear hx4 ho4)
      | (go_at_call 30; refine kdk.out.mono ?_; rintro e w3 ⟨rfl, rfl⟩)
      | (go_at_call 78; refine km.out.mono ?_; rintro e w2 ⟨rfl, rfl⟩))
    refine bodyPost_end (v := .tuple #[]) (by simp [results, Tryz.f72, go_sem]) rfl ?_
    have h7 := HM6.out.turned (sy2 := wrap64 (M.sy + 1)) (fu2 := Nt.burn M.fu) (HM6.out.box.set 3 (.int .i64 (wrap64 (M.sy + 1)))) ((Oth.refl _ _).setCell 3 _)
    rw [HL.out, HLL.out] at h7
    have e : IntKind.i64.wrap (M.sy + 1) = wrap64 (M.sy + 1) := by rw [IntKind.wrap_i64]; unfold wrap64; rfl
    rw [e]
    exact ⟨rfl, ⟨dt, vt, _, [], ad2, mb2, ad', mb', h7, rfl⟩, (((HKX.out _ HO4.out).trans (HX5.out.weak fun o ho => .inl ho)).trans (KeepX.setCell HM5.out.box disk_obj _)).trans (KeepX.setCell HM6.out.box disk_obj _)⟩
theorem crash14_any {w0 : Bs} {w : World} {db K : Nat} {M : Dk} (h : DkR w0 w db M K) (hM : M.ok K) (hK : K + 301 * M.L.length ≤ 90000) (keep t : Int) :
    Calls Tryz.prog 71 #[.pointer (some ⟨db, 0, none⟩), .int .i64 keep, .int .i64 t] w fun e w' => e = .returned (.tuple #[]) ∧ Hid (DkR w0 w' db (M.crash keep t) (K + 301 * M.L.length) ∧ KeepX DiskObj w w') := by
  obtain ⟨dt, vt, v, l, ad, mb, ad', mb', hm, hL⟩ := h
  have km := Lib.hid (dmade_any hm.box)
  have hmf := mf14
  have hll : l.length = M.L.length := by rw [← hL, List.length_map]
  obtain ⟨A, c, hv, hdl, hc1, hc2⟩ := own_dl hm.row hm.data
  subst hv
  have hcm : c ≤ 9223372036854775807 := hc2
  obtain ⟨KD, hwd, hkd⟩ := hM.wfD
  obtain ⟨r, hr⟩ : ∃ r, M.whole keep = r := ⟨_, rfl⟩
  have hr1 : r ≤ l.length := by rw [hll, ← hr]; exact Nt.whole_le _ _
  have hmm : min (max keep 0) (l.length : Int) = r := by
    have h1 : (min (max keep 0) (M.L.length : Int)).toNat = r := hr
    rw [← hll] at h1
    omega
  have d2 : w.cell? ⟨db, 2, none⟩ = some (.slice A l.length c) := hm.box.cell rfl
  have HWD := Lib.hid (hwd.le (show KD ≤ K by omega))
  have HED := Lib.hid hM.er
  have HL := Lib.hid hL
  have HLL := Lib.hid hll
  have HDL := Lib.hid hdl
  have HM := Lib.hid hm
  have ke := Lib.hid (each14_any hm HWD.out HED.out A r c (l.take r) (hdl.pre hr1) ⟨by omega, hc2⟩ (by rw [hll] at hr1; omega))
  have kt0 := Lib.hid (fun W (hx : KeepX TreeObj w W) => tear14_any (Option.map (fun x => x.add (r * 8)) A) (l.length - r) (c - r) (l.drop r) t W ((hdl.kept hx tree_u8 fun _ _ => deed_tree).cutAt hr1) ⟨by omega, by omega⟩)
  have hDR : Hid (Nt.all M.D ((l.take r).map Dd.er) = Nt.all M.D (M.L.take r)) := by
    show _ = _
    rw [List.map_take, hL]
  have HW5 : Hid (WF (Nt.all M.D ((l.take r).map Dd.er)) (K + 301 * r)) := by
    have h1 := Nt.WF.all (K := K) (l := (l.take r).map Dd.er) HWD.out fun z hz => by
      obtain ⟨x, hx, rfl⟩ := List.mem_map.1 hz
      exact (hdl.2.2 x (List.mem_of_mem_take hx)).rb.1
    rw [List.length_map, List.length_take, Nat.min_eq_left hr1] at h1
    exact h1
  have HE5 : Hid ((Nt.all M.D ((l.take r).map Dd.er)).er = Nt.all M.D ((l.take r).map Dd.er)) := Nt.er_all HED.out fun z hz => by
    obtain ⟨x, hx, rfl⟩ := List.mem_map.1 hz
    rfl
  have HOKC := Lib.hid (hM.crash keep t)
  have HRR := Lib.hid hr
  have HCD : Hid (M.crashD keep t = Nt.all (Nt.all M.D (M.L.take r)) (Nt.torn (M.L.drop r) t)) := by
    show _ = _
    unfold Nt.Dk.crashD
    rw [hr]
  have hKL : K + 301 * l.length ≤ 90000 := by rw [hll]; exact hK
  by_cases hcr : c = r
  · obtain rfl : r = l.length := by omega
    obtain rfl : c = l.length := by omega
    clear hcr
    have kt := Lib.hid (fun W (hx : KeepX TreeObj w W) => tear14_any A 0 0 (l.drop l.length) t W (by rw [List.drop_length]; exact DL.nil) ⟨Nat.le_refl _, by decide⟩)
    clear kt0
    clear hm hM hL hdl hwd hkd hll hr
    go_enter Tryz.func71, Tryz.ntmps71
    go_wp2_with (first
      | (go_at_call 40; (with_reducible refine kcl.out.mono ?_); rintro e w9 ⟨tb9, rfl, ha9, hb9⟩; obtain ⟨G9, ad9, mb9, hG9, hR9⟩ := ha9.rep; have h9 := HM8.out.later hb9; have e91 := h9.box.cell (j := 1) rfl; have f91 := h9.box.free 1; have HM9 := Lib.hid h9; have HM10 := Lib.hid (HM8.out.anew hb9 hR9 (fun k hk => (hG9 k hk).1) (h9.box.set 1 (.pointer (some ⟨tb9, 0, none⟩))) ((Oth.refl _ _).setCell 1 _)); have e104 := HM10.out.box.cell (j := 4) rfl; have f104 := HM10.out.box.free 4; have HB9 := Lib.hid hb9; clear h9 ha9 hb9 hG9 hR9)
      | (go_at_call 118; (with_reducible refine (ke2.out _ _ _ hm6 H6.out.1 H6.out.2.1 H6.out.2.2.1 H6.out.2.2.2.2.1).mono ?_); rintro e w7 ⟨rfl, hx7, ad3, mb3, hm7⟩; have HM7 := Lib.hid hm7; have HX7 := Lib.hid hx7; have f72 := hm7.box.free 2; have e72 := hm7.box.cell (j := 2) rfl; have HM8 := Lib.hid (hm7.empty (sy2 := M.sy) (fu2 := M.fu) (hm7.box.set 2 (.slice none 0 0)) ((Oth.refl _ _).setCell 2 _)); have e80 := HM8.out.box.cell (j := 0) rfl; have hlz : ls6.length = m6 := H6.out.1.1; have hW8 : WF (Nt.all (Nt.all M.D ((l.take l.length).map Dd.er)) (ls6.map Dd.er)) (K + 301 * l.length + 301 * m6) := (by have h1 := Nt.WF.all (K := K) (l := ls6.map Dd.er) HW5.out (fun z hz => by (obtain ⟨x, hx, rfl⟩ := List.mem_map.1 hz; exact (H6.out.1.2.2 x hx).rb.1)); rw [List.length_map, hlz] at h1; exact h1); have HM1 := Lib.hid H6.out.2.2.2.2.1; have kcl := Lib.hid (clone14 HM8.out.repD hW8 (by have := HM1.out; omega)); clear hm7 hx7 hlz hW8)
      | (go_at_call 120; (with_reducible refine (kt.out _ HX5.out).mono ?_); rintro e w6 ⟨A6, m6, c6, rfl, ls6, H6⟩; have hm6 := HM5.out.later H6.out.2.2.2.2.2; have ke2 := Lib.hid (fun W A' m' (hd : DM w0 W db dt vt (Nt.all M.D ((l.take l.length).map Dd.er)) M.V (.slice A l.length l.length) l M.sy M.fu (K + 301 * l.length) ad2 mb2 ad' mb') (hdl : DL W A' m' ls6) (h1 : m' ≤ c6) (h2 : c6 ≤ maxLen) (h3 : m' ≤ 1) => each14_any hd HW5.out HE5.out A' m' c6 ls6 hdl ⟨h1, h2⟩ (by omega)))
      | (go_at_call 118; (with_reducible refine ke.out.mono ?_); rintro e w5 ⟨rfl, hx5, ad2, mb2, hm5⟩; have e2 := hm5.box.cell (j := 2) rfl; have HM5 := Lib.hid hm5; have HX5 := Lib.hid hx5; clear hm5 hx5)
      | (go_at_call 78; refine km.out.mono ?_; rintro e w2 ⟨rfl, rfl⟩))
    refine bodyPost_end (v := .tuple #[]) (by simp [results, Tryz.f71, go_sem]) rfl ?_
    have h11 := HM10.out.turned (sy2 := M.sy) (fu2 := -1) (HM10.out.box.set 4 (.int .i64 (-1))) ((Oth.refl _ _).setCell 4 _)
    have hls : ls6.map Dd.er = Nt.torn (M.L.drop l.length) t := by
      have h := H6.out.2.2.2.1
      rw [List.map_drop, HL.out] at h
      exact h
    have hlz : m6 ≤ M.L.length - l.length := by
      have h1 := congrArg List.length hls
      rw [List.length_map, H6.out.1.1] at h1
      have h2 := Nt.torn_len (M.L.drop l.length) t
      rw [List.length_drop] at h2
      omega
    rw [hls, hDR.out, ← HCD.out] at h11
    exact ⟨rfl, ⟨dt, tb9, _, [], ad3, mb3, ad9, mb9, h11.more (by have := HLL.out; omega), rfl⟩, ((((((HX5.out.weak (Y := DiskObj) fun o ho => .inl ho).trans (KeepX.ofBelow H6.out.2.2.2.2.2)).trans (HX7.out.weak fun o ho => .inl ho)).trans (KeepX.setCell HM7.out.box disk_obj _)).trans (KeepX.ofBelow HB9.out)).trans (KeepX.setCell HM9.out.box disk_obj _)).trans (KeepX.setCell HM10.out.box disk_obj _)⟩
  · have kt := kt0
    clear kt0
    clear hm hM hL hdl hwd hkd hll hr
    go_enter Tryz.func71, Tryz.ntmps71
    go_wp2_with (first
      | (go_at_call 40; (with_reducible refine kcl.out.mono ?_); rintro e w9 ⟨tb9, rfl, ha9, hb9⟩; obtain ⟨G9, ad9, mb9, hG9, hR9⟩ := ha9.rep; have h9 := HM8.out.later hb9; have e91 := h9.box.cell (j := 1) rfl; have f91 := h9.box.free 1; have HM9 := Lib.hid h9; have HM10 := Lib.hid (HM8.out.anew hb9 hR9 (fun k hk => (hG9 k hk).1) (h9.box.set 1 (.pointer (some ⟨tb9, 0, none⟩))) ((Oth.refl _ _).setCell 1 _)); have e104 := HM10.out.box.cell (j := 4) rfl; have f104 := HM10.out.box.free 4; have HB9 := Lib.hid hb9; clear h9 ha9 hb9 hG9 hR9)
      | (go_at_call 118; (with_reducible refine (ke2.out _ _ _ hm6 H6.out.1 H6.out.2.1 H6.out.2.2.1 H6.out.2.2.2.2.1).mono ?_); rintro e w7 ⟨rfl, hx7, ad3, mb3, hm7⟩; have HM7 := Lib.hid hm7; have HX7 := Lib.hid hx7; have f72 := hm7.box.free 2; have e72 := hm7.box.cell (j := 2) rfl; have HM8 := Lib.hid (hm7.empty (sy2 := M.sy) (fu2 := M.fu) (hm7.box.set 2 (.slice none 0 0)) ((Oth.refl _ _).setCell 2 _)); have e80 := HM8.out.box.cell (j := 0) rfl; have hlz : ls6.length = m6 := H6.out.1.1; have hW8 : WF (Nt.all (Nt.all M.D ((l.take r).map Dd.er)) (ls6.map Dd.er)) (K + 301 * r + 301 * m6) := (by have h1 := Nt.WF.all (K := K) (l := ls6.map Dd.er) HW5.out (fun z hz => by (obtain ⟨x, hx, rfl⟩ := List.mem_map.1 hz; exact (H6.out.1.2.2 x hx).rb.1)); rw [List.length_map, hlz] at h1; exact h1); have HM1 := Lib.hid H6.out.2.2.2.2.1; have kcl := Lib.hid (clone14 HM8.out.repD hW8 (by have := HM1.out; omega)); clear hm7 hx7 hlz hW8)
      | (go_at_call 120; (with_reducible refine (kt.out _ HX5.out).mono ?_); rintro e w6 ⟨A6, m6, c6, rfl, ls6, H6⟩; have hm6 := HM5.out.later H6.out.2.2.2.2.2; have ke2 := Lib.hid (fun W A' m' (hd : DM w0 W db dt vt (Nt.all M.D ((l.take r).map Dd.er)) M.V (.slice A l.length c) l M.sy M.fu (K + 301 * r) ad2 mb2 ad' mb') (hdl : DL W A' m' ls6) (h1 : m' ≤ c6) (h2 : c6 ≤ maxLen) (h3 : m' ≤ 1) => each14_any hd HW5.out HE5.out A' m' c6 ls6 hdl ⟨h1, h2⟩ (by omega)))
      | (go_at_call 118; (with_reducible refine ke.out.mono ?_); rintro e w5 ⟨rfl, hx5, ad2, mb2, hm5⟩; have e2 := hm5.box.cell (j := 2) rfl; have HM5 := Lib.hid hm5; have HX5 := Lib.hid hx5; clear hm5 hx5)
      | (go_at_call 78; refine km.out.mono ?_; rintro e w2 ⟨rfl, rfl⟩))
    refine bodyPost_end (v := .tuple #[]) (by simp [results, Tryz.f71, go_sem]) rfl ?_
    have h11 := HM10.out.turned (sy2 := M.sy) (fu2 := -1) (HM10.out.box.set 4 (.int .i64 (-1))) ((Oth.refl _ _).setCell 4 _)
    have hls : ls6.map Dd.er = Nt.torn (M.L.drop r) t := by
      have h := H6.out.2.2.2.1
      rw [List.map_drop, HL.out] at h
      exact h
    have hlz : m6 ≤ M.L.length - r := by
      have h1 := congrArg List.length hls
      rw [List.length_map, H6.out.1.1] at h1
      have h2 := Nt.torn_len (M.L.drop r) t
      rw [List.length_drop] at h2
      omega
    rw [hls, hDR.out, ← HCD.out] at h11
    exact ⟨rfl, ⟨dt, tb9, _, [], ad3, mb3, ad9, mb9, h11.more (by have := HLL.out; omega), rfl⟩, ((((((HX5.out.weak (Y := DiskObj) fun o ho => .inl ho).trans (KeepX.ofBelow H6.out.2.2.2.2.2)).trans (HX7.out.weak fun o ho => .inl ho)).trans (KeepX.setCell HM7.out.box disk_obj _)).trans (KeepX.ofBelow HB9.out)).trans (KeepX.setCell HM9.out.box disk_obj _)).trans (KeepX.setCell HM10.out.box disk_obj _)⟩
end Go.Proofs.YthgbncpiehcghaaGreatDoor
/- WALKS OF LAYER 14, ELEVENTH PART: the methods over the model; a disk that nobody made. -/
namespace Go.Proofs.YthgbncpiehcghaaGreatDoor
set_option linter.unusedVariables false
open Go Go.RowKit Go.Maps
set_option maxRecDepth 100000
set_option maxHeartbeats 4000000
open Nt (Tr Nd WF Ps Path at_ cnt used Dd Dk ap)
section
variable {w0 : Bs} {w : World} {db K : Nat} {M : Dk}
theorem dkdark (h : DkR w0 w db M K) : Calls Tryz.prog 30 #[.pointer (some ⟨db, 0, none⟩)] w fun e w' => e = .returned (.bool (M.fu == 0)) ∧ w = w' := by
  obtain ⟨dt, vt, v, l, ad, mb, ad', mb', hm, hL⟩ := h
  exact ddark_any hm.box
theorem dksyncs (h : DkR w0 w db M K) : Calls Tryz.prog 29 #[.pointer (some ⟨db, 0, none⟩)] w fun e w' => e = .returned (.int .i64 M.sy) ∧ w = w' := by
  obtain ⟨dt, vt, v, l, ad, mb, ad', mb', hm, hL⟩ := h
  exact dsyncs_any hm.box
theorem dkfuse (h : DkR w0 w db M K) (n : Int) : Calls Tryz.prog 75 #[.pointer (some ⟨db, 0, none⟩), .int .i64 n] w fun e w' => e = .returned (.tuple #[]) ∧ DkR w0 w' db (M.fuse n) K ∧ KeepX DiskObj w w' := by
  obtain ⟨dt, vt, v, l, ad, mb, ad', mb', hm, hL⟩ := h
  refine (dfuse_any hm.box n).mono ?_
  rintro e w' ⟨rfl, hx, ho⟩
  exact ⟨rfl, ⟨dt, vt, v, l, ad, mb, ad', mb', hm.turned hx ho, hL⟩, KeepX.ofOth ho hm.box disk_obj⟩
theorem dkview (h : DkR w0 w db M K) (hM : M.ok K) (hK : K ≤ 100000) : Calls Tryz.prog 26 #[.pointer (some ⟨db, 0, none⟩)] w fun e w' => ∃ tb, e = .returned (.pointer (some ⟨tb, 0, none⟩)) ∧ At w w' tb M.V K ∧ Below w.heap.size w w' := by
  obtain ⟨dt, vt, v, l, ad, mb, ad', mb', hm, hL⟩ := h
  exact view14_any hm hM.wfV hK
theorem dkdurable (h : DkR w0 w db M K) (hM : M.ok K) (hK : K ≤ 100000) : Calls Tryz.prog 28 #[.pointer (some ⟨db, 0, none⟩)] w fun e w' => ∃ tb, e = .returned (.pointer (some ⟨tb, 0, none⟩)) ∧ At w w' tb M.D K ∧ Below w.heap.size w w' := by
  obtain ⟨dt, vt, v, l, ad, mb, ad', mb', hm, hL⟩ := h
  obtain ⟨KD, h1, h2⟩ := hM.wfD
  exact durable14_any hm (h1.le (by omega)) hK
theorem dkwaits (h : DkR w0 w db M K) (hlen : M.L.length ≤ 1000) : Calls Tryz.prog 24 #[.pointer (some ⟨db, 0, none⟩)] w fun e w' => ∃ A n c, e = .returned (.slice A n c) ∧ ∃ ls, Hid (DL w' A n ls ∧ ls.map Dd.er = M.L ∧ n ≤ c ∧ c ≤ maxLen ∧ n = M.L.length ∧ Below w.heap.size w w') := by
  obtain ⟨dt, vt, v, l, ad, mb, ad', mb', hm, hL⟩ := h
  refine (waits14_any hm (by rw [← hL, List.length_map] at hlen; exact hlen)).mono ?_
  rintro e w' ⟨v2, rfl, ls, h⟩
  obtain ⟨A, c, rfl, hdl, h1, h2⟩ := own_dl h.out.1.row h.out.1.data
  exact ⟨A, ls.length, c, rfl, ls, hdl, by rw [h.out.2.1, hL], h1, h2, by rw [← hL, ← h.out.2.1, List.length_map], h.out.2.2⟩
theorem dknew (w : World) (a b : Int) : Calls Tryz.prog 19 #[.int .i64 a, .int .i64 b] w fun e w' => ∃ db, e = .returned (.pointer (some ⟨db, 0, none⟩)) ∧ DkR (Bs.of w) w' db (Nt.dnew a b) 1 := by
  refine (new14_any a b w).mono ?_
  rintro e w' ⟨db, rfl, dt, vt, ad, mb, ad', mb', h⟩
  exact ⟨db, rfl, dt, vt, _, [], ad, mb, ad', mb', h, rfl⟩
end
abbrev DkZ : Array Value := #[.pointer none, .pointer none, .slice none 0 0, .int .i64 0, .int .i64 0]
/-- V is nil, or a disk that nobody made. -/
def NobD (w : World) (V : Value) : Prop := V = .pointer none ∨ ∃ db, V = .pointer (some ⟨db, 0, none⟩) ∧ BX w db 135 DkZ
section
variable {w w' : World} {V : Value}
theorem NobD.later (h : NobD w V) (hb : Below w.heap.size w w') : NobD w' V := h.imp id fun ⟨db, e, hx⟩ => ⟨db, e, hx.later hb⟩
theorem nob_ismade (h : NobD w V) : Calls Tryz.prog 78 #[V] w fun e w' => e = .returned (.bool false) ∧ w = w' := by
  rcases h with rfl | ⟨db, rfl, hx⟩
  · go_enter Tryz.func78, Tryz.ntmps78
    go_wp2
    go_ret
    exact ⟨rfl, rfl⟩
  · have c0 : w.cell? ⟨db, 0, none⟩ = some (.pointer none) := hx.cell rfl
    go_enter Tryz.func78, Tryz.ntmps78
    go_wp2
    go_ret
    exact ⟨rfl, rfl⟩
theorem nob_dark (h : NobD w V) : Calls Tryz.prog 30 #[V] w fun e w' => e = .returned (.bool false) ∧ w = w' := by
  have km := Lib.hid (nob_ismade h)
  rcases h with rfl | ⟨db, rfl, hx⟩
  · skip
    go_enter Tryz.func30, Tryz.ntmps30
    go_wp2_with (go_at_call 78; (with_reducible refine km.out.mono ?_); rintro e w1 ⟨rfl, rfl⟩)
    go_ret
    exact ⟨rfl, rfl⟩
  · skip
    go_enter Tryz.func30, Tryz.ntmps30
    go_wp2_with (go_at_call 78; (with_reducible refine km.out.mono ?_); rintro e w1 ⟨rfl, rfl⟩)
    go_ret
    exact ⟨rfl, rfl⟩
theorem nob_syncs (h : NobD w V) : Calls Tryz.prog 29 #[V] w fun e w' => e = .returned (.int .i64 0) ∧ w = w' := by
  have km := Lib.hid (nob_ismade h)
  rcases h with rfl | ⟨db, rfl, hx⟩
  · skip
    go_enter Tryz.func29, Tryz.ntmps29
    go_wp2_with (go_at_call 78; (with_reducible refine km.out.mono ?_); rintro e w1 ⟨rfl, rfl⟩)
    go_ret
    exact ⟨rfl, rfl⟩
  · skip
    go_enter Tryz.func29, Tryz.ntmps29
    go_wp2_with (go_at_call 78; (with_reducible refine km.out.mono ?_); rintro e w1 ⟨rfl, rfl⟩)
    go_ret
    exact ⟨rfl, rfl⟩
theorem nob_view (h : NobD w V) : Calls Tryz.prog 26 #[V] w fun e w' => e = .returned (.pointer none) ∧ w = w' := by
  have km := Lib.hid (nob_ismade h)
  rcases h with rfl | ⟨db, rfl, hx⟩
  · skip
    go_enter Tryz.func26, Tryz.ntmps26
    go_wp2_with (go_at_call 78; (with_reducible refine km.out.mono ?_); rintro e w1 ⟨rfl, rfl⟩)
    go_ret
    exact ⟨rfl, rfl⟩
  · skip
    go_enter Tryz.func26, Tryz.ntmps26
    go_wp2_with (go_at_call 78; (with_reducible refine km.out.mono ?_); rintro e w1 ⟨rfl, rfl⟩)
    go_ret
    exact ⟨rfl, rfl⟩
theorem nob_durable (h : NobD w V) : Calls Tryz.prog 28 #[V] w fun e w' => e = .returned (.pointer none) ∧ w = w' := by
  have km := Lib.hid (nob_ismade h)
  rcases h with rfl | ⟨db, rfl, hx⟩
  · skip
    go_enter Tryz.func28, Tryz.ntmps28
    go_wp2_with (go_at_call 78; (with_reducible refine km.out.mono ?_); rintro e w1 ⟨rfl, rfl⟩)
    go_ret
    exact ⟨rfl, rfl⟩
  · skip
    go_enter Tryz.func28, Tryz.ntmps28
    go_wp2_with (go_at_call 78; (with_reducible refine km.out.mono ?_); rintro e w1 ⟨rfl, rfl⟩)
    go_ret
    exact ⟨rfl, rfl⟩
theorem nob_waits (h : NobD w V) : Calls Tryz.prog 24 #[V] w fun e w' => e = .returned (.slice none 0 0) ∧ w = w' := by
  have km := Lib.hid (nob_ismade h)
  rcases h with rfl | ⟨db, rfl, hx⟩
  · skip
    go_enter Tryz.func24, Tryz.ntmps24
    go_wp2_with (go_at_call 78; (with_reducible refine km.out.mono ?_); rintro e w1 ⟨rfl, rfl⟩)
    go_ret
    exact ⟨rfl, rfl⟩
  · skip
    go_enter Tryz.func24, Tryz.ntmps24
    go_wp2_with (go_at_call 78; (with_reducible refine km.out.mono ?_); rintro e w1 ⟨rfl, rfl⟩)
    go_ret
    exact ⟨rfl, rfl⟩
theorem nob_sync (h : NobD w V) : Calls Tryz.prog 72 #[V] w fun e w' => e = .returned (.tuple #[]) ∧ w = w' := by
  have km := Lib.hid (nob_ismade h)
  rcases h with rfl | ⟨db, rfl, hx⟩
  · skip
    go_enter Tryz.func72, Tryz.ntmps72
    go_wp2_with (go_at_call 78; (with_reducible refine km.out.mono ?_); rintro e w1 ⟨rfl, rfl⟩)
    refine bodyPost_ret (results_none rfl _ _ _) rfl ?_
    exact ⟨rfl, rfl⟩
  · skip
    go_enter Tryz.func72, Tryz.ntmps72
    go_wp2_with (go_at_call 78; (with_reducible refine km.out.mono ?_); rintro e w1 ⟨rfl, rfl⟩)
    refine bodyPost_ret (results_none rfl _ _ _) rfl ?_
    exact ⟨rfl, rfl⟩
theorem nob_crash (h : NobD w V) (a b : Int) : Calls Tryz.prog 71 #[V, .int .i64 a, .int .i64 b] w fun e w' => e = .returned (.tuple #[]) ∧ w = w' := by
  have km := Lib.hid (nob_ismade h)
  rcases h with rfl | ⟨db, rfl, hx⟩
  · skip
    go_enter Tryz.func71, Tryz.ntmps71
    go_wp2_with (go_at_call 78; (with_reducible refine km.out.mono ?_); rintro e w1 ⟨rfl, rfl⟩)
    refine bodyPost_ret (results_none rfl _ _ _) rfl ?_
    exact ⟨rfl, rfl⟩
  · skip
    go_enter Tryz.func71, Tryz.ntmps71
    go_wp2_with (go_at_call 78; (with_reducible refine km.out.mono ?_); rintro e w1 ⟨rfl, rfl⟩)
    refine bodyPost_ret (results_none rfl _ _ _) rfl ?_
    exact ⟨rfl, rfl⟩
theorem nob_fuse (h : NobD w V) (a : Int) : Calls Tryz.prog 75 #[V, .int .i64 a] w fun e w' => e = .returned (.tuple #[]) ∧ w = w' := by
  have km := Lib.hid (nob_ismade h)
  rcases h with rfl | ⟨db, rfl, hx⟩
  · skip
    go_enter Tryz.func75, Tryz.ntmps75
    go_wp2_with (go_at_call 78; (with_reducible refine km.out.mono ?_); rintro e w1 ⟨rfl, rfl⟩)
    refine bodyPost_ret (results_none rfl _ _ _) rfl ?_
    exact ⟨rfl, rfl⟩
  · skip
    go_enter Tryz.func75, Tryz.ntmps75
    go_wp2_with (go_at_call 78; (with_reducible refine km.out.mono ?_); rintro e w1 ⟨rfl, rfl⟩)
    refine bodyPost_ret (results_none rfl _ _ _) rfl ?_
    exact ⟨rfl, rfl⟩
theorem nob_do (h : NobD w V) (y : Dd) : Calls Tryz.prog 70 #[V, .agg (DdC y)] w fun e w' => e = .returned (.int .i64 2) ∧ Below w.heap.size w w' := by
  have km := Lib.hid (nob_ismade h)
  have kmb := Lib.hid (nob_ismade (h.later (below_new w (.cells (DdC y) 74))))
  rcases h with rfl | ⟨db, rfl, hx⟩
  · skip
    go_enter Tryz.func70, Tryz.ntmps70
    go_wp2_with (go_at_call 78; (with_reducible refine kmb.out.mono ?_); rintro e w1 ⟨rfl, rfl⟩)
    go_ret
    exact ⟨rfl, below_new _ _⟩
  · skip
    go_enter Tryz.func70, Tryz.ntmps70
    go_wp2_with (go_at_call 78; (with_reducible refine kmb.out.mono ?_); rintro e w1 ⟨rfl, rfl⟩)
    go_ret
    exact ⟨rfl, below_new _ _⟩
end
end Go.Proofs.YthgbncpiehcghaaGreatDoor
