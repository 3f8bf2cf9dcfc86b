/- WALKS OF LAYER 9, NINTH PART: the gathering's gather. By gen_a9i.py. -/
import Derived.Test.YtjofdgjcbjdhbaaGreatDoorGa2
import Derived.Deep.DeepCutAuto
import Derived.Deep.RegionHeld3
namespace Go.Proofs.YtjofdgjcbjdhbaaGreatDoor
open Go Go.RowKit
set_option maxHeartbeats 64000000
set_option maxRecDepth 100000
set_option linter.unusedVariables false
theorem step_append_run8 {P : Program} {w : World} {ops : Array Oper} {o : Oper} {a : Act} {K : Act → World → Prop} {Q : Exit → Act → World → Prop} {E : Prop} (hgd : o.guard = none) (s x : Operand) (t tn : TypeId)
    (ho : o.op = .call { callee := .builtin .append, args := #[s, x], argTypes := #[t, tn] }) (vs vx : Value) (hs : a.eval s = vs) (hx : a.eval x = vx) {v' : Value} {w' : World}
    (hr : (Builtin.append_ #[t, tn] o.type #[vs, vx]).run P w = .ok v' w') (h : K (a.put o.dst v') w') :
    if Region.wanted o (yielded ops a.tmps) = true then Oper.wp P o a w K Q else E := by
  have hw : Region.wanted o (yielded ops a.tmps) = true := by simp [Region.wanted, hgd]
  rw [if_pos hw]
  unfold Oper.wp execOp
  simp only [ho, resolve, invoke, builtin, Sem.run_bind, Sem.run_pure, Result.andThen_ok, List.map_toArray, List.map_cons, List.map_nil, hs, hx, hr]
  exact h
theorem bx_new_drew (w : World) (T : TypeId) (cs : Array Value) : BX ((w.alloc (.cells cs T)).drew) w.heap.size T cs := BX.drew (BX.new w T cs)
/-- What becomes of it: nothing but an error, or one item more. -/
def Gathered (w' : World) (B a : Nat) (bA : Option Addr) (bn bc : Nat) (xs : List Int) (al it : Value) (its : List It) (s : Ar.S) (e : Ending) (E : Int) (mm : Ar.Mem) : Prop :=
  if E = 0 then (if s.out.length = 64 then e = .returned (.int .i64 5) ∧ Left w' B a bA bn bc xs it its else e = .returned (.int .i64 0) ∧ ∃ it' its', Gs w' B a bA bn bc xs al (.slice none 0 0) it' { s with nx := [], out := s.out ++ [(mm, s.at_)] } its')
  else e = .returned (.int .i64 E) ∧ Left w' B a bA bn bc xs it its
section
variable {w : World} {B a : Nat} {bA : Option Addr} {bn bc : Nat} {xs : List Int} {al nx it : Value} {s : Ar.S} {its : List It}
theorem gather_any9 (h : Gs w B a bA bn bc xs al nx it s its) (hB : B ≤ w.heap.size) (hat : s.at_ ≤ 900000) (hal : s.al.length + s.nx.length ≤ 100000) (hrv : ∀ r ∈ s.al ++ s.nx, r.2.size ≤ 100000) (hol : s.out.length ≤ 64) (p nm l : ByteArray) (m u g t z k : Int) (hp : p.size ≤ 1000) (hnm : nm.size ≤ 1000) (hl : l.size ≤ 1000)
    (A : Option Addr) (n c : Nat) (d : List Int) (hd : OBn w B 5 (.slice A n c) n d) (hn : n ≤ 100000) :
    Calls Tryz.prog 78 #[.pointer (some ⟨a, 0, none⟩), .agg #[.string p, .string nm, .int .i64 m, .int .i64 u, .int .i64 g, .int .i64 t, .int .i64 z, .int .u8 k, .string l], .slice A n c] w fun e w' => Gathered w' B a bA bn bc xs al it its s e (Mb.fE (s.al ++ s.nx) p nm l k m u g t d) ⟨Mb.fP (s.al ++ s.nx) p nm, Mb.fL (s.al ++ s.nx) k l, Mb.kin k, m, u, g, t, Mb.fX k d⟩ ∧ Below B w w' := by
  obtain ⟨Ai, ci, hiv, hci⟩ := owns_slice h.hit
  subst hiv
  have hlen : its.length = s.out.length := by rw [← h.out, List.length_map]
  have hLT := h.box.lt
  have hBA := h.ba
  have HOUT := Lib.hid h.out
  have REC := Lib.hid (fun (W : World) (hb : Below w.heap.size w W) => records_any9 (h.below hb) (Nat.le_trans hB hb.size) (by omega) (by omega))
  have DAT := Lib.hid (fun (W : World) (ho : Oth a w W) => (show RB W W.heap.size A n d from by
    have h2 : OBn W B 5 (.slice A n c) n d := owns_keep hd fun k hk => ho.2.2.2.2 k (owns_lt hd hk) (owns_box hd h.box ne_u8_box hk)
    obtain ⟨A9, c9, e9, hr9, _, _⟩ := OBn.slice h2
    cases e9
    exact hr9))
  have FRO := Lib.hid (fun (W1 : World) (A1 : Option Addr) (c1 : Nat) (hr : RL W1 W1.heap.size A1 (s.al ++ s.nx).length (s.al ++ s.nx)) (ho : Oth a w W1) (W : World) (hb : Below W1.heap.size W1 W) => mfrom2_any p nm l m u g t z k A1 (s.al ++ s.nx).length c1 (s.al ++ s.nx) A n c d W ((hr.below hb).more hb.size) (by rw [List.length_append]; omega) (DAT.out W (ho.trans (Oth.ofBelow hb))) hn hp hnm hl hrv)
  have OBL := Lib.hid (fun W (ho : Oth a w W) => ho.below hBA hB)
  have HG := Lib.hid h
  have HBZ := Lib.hid hB
  have HBA := Lib.hid hBA
  have HLT := Lib.hid hLT
  clear h hd hrv hB hBA hLT DAT
  unfold FromOk2 at FRO
  generalize s.al ++ s.nx = RS at *
  obtain ⟨E, hE⟩ : ∃ E, E = Mb.fE RS p nm l k m u g t d := ⟨_, rfl⟩
  have HX := Lib.hid (fun (h0 : E = 0) => show Mb.rS E (Mb.fP RS p nm) = Mb.fP RS p nm ∧ Mb.rI E (Mb.kin k) = Mb.kin k ∧ Mb.rI E m = m ∧ Mb.rI E u = u ∧ Mb.rI E g = g ∧ Mb.rI E t = t ∧ Mb.rS E (Mb.fL RS k l) = Mb.fL RS k l ∧ Mb.rX E (Mb.fX k d) = Mb.fX k d by
    subst h0
    exact ⟨rfl, rfl, rfl, rfl, rfl, rfl, rfl, rfl⟩)
  rw [← hE] at FRO ⊢
  clear hE
  generalize Mb.rS E (Mb.fP RS p nm) = P at *
  generalize Mb.rI E (Mb.kin k) = K at *
  generalize Mb.rI E m = M at *
  generalize Mb.rI E u = U at *
  generalize Mb.rI E g = G at *
  generalize Mb.rI E t = TT at *
  generalize Mb.rS E (Mb.fL RS k l) = L at *
  generalize Mb.rX E (Mb.fX k d) = X at *
  go_enter Tryz.func78, Tryz.ntmps78
  go_upto_region 1 with (fail)
  obtain ⟨W0, hW0⟩ : ∃ W0, W0 = w.alloc (.cells #[.string p, .string nm, .int .i64 m, .int .i64 u, .int .i64 g, .int .i64 t, .int .i64 z, .int .u8 k, .string l] 64) := ⟨_, rfl⟩
  rw [← hW0]
  have HSZ := Lib.hid (show W0.heap.size = w.heap.size + 1 by rw [hW0]; simp)
  have HB0 := Lib.hid (show Below w.heap.size w W0 by rw [hW0]; exact mb_new _ _)
  have HBX := Lib.hid (show BX W0 w.heap.size 64 #[.string p, .string nm, .int .i64 m, .int .i64 u, .int .i64 g, .int .i64 t, .int .i64 z, .int .u8 k, .string l] by rw [hW0]; exact BX.new _ _ _)
  clear hW0
  have alls : ∀ W, Oth a W0 W → W.cell? ⟨w.heap.size, 0, none⟩ = some (.string p) ∧ W.cell? ⟨w.heap.size, 1, none⟩ = some (.string nm) ∧ W.cell? ⟨w.heap.size, 2, none⟩ = some (.int .i64 m) ∧ W.cell? ⟨w.heap.size, 3, none⟩ = some (.int .i64 u) ∧ W.cell? ⟨w.heap.size, 4, none⟩ = some (.int .i64 g) ∧ W.cell? ⟨w.heap.size, 5, none⟩ = some (.int .i64 t) ∧ W.cell? ⟨w.heap.size, 6, none⟩ = some (.int .i64 z) ∧ W.cell? ⟨w.heap.size, 7, none⟩ = some (.int .u8 k) ∧ W.cell? ⟨w.heap.size, 8, none⟩ = some (.string l) := fun W hW => by
    have b := HBX.out.oth hW (show w.heap.size ≠ a by have := HLT.out; omega)
    exact ⟨b.cell rfl, b.cell rfl, b.cell rfl, b.cell rfl, b.cell rfl, b.cell rfl, b.cell rfl, b.cell rfl, b.cell rfl⟩
  have ALLS := Lib.hid alls
  clear alls
  have BLW := Lib.hid (fun W (hb : Below W0.heap.size W0 W) => HB0.out.trans (hb.mono (show w.heap.size ≤ W0.heap.size by have := HSZ.out; omega)))
  have OTW := Lib.hid (fun W (ho : Oth a W0 W) => (Oth.ofBelow (a := a) HB0.out).trans ho)
  go_cut [7, 8] (fun v e wx => ∃ gx A8 n8 c8, v = .pointer (some ⟨gx, 0, none⟩) ∧ e = .int .i64 E ∧ Hid (BX wx gx 44 #[.string P, .int .i64 K, .int .i64 M, .int .i64 U, .int .i64 G, .int .i64 TT, .string L, .slice A8 n8 c8]) ∧ Hid (RB wx wx.heap.size A8 n8 X ∧ n8 ≤ c8 ∧ c8 ≤ maxLen ∧ (0 < n8 → OBn wx B 5 (.slice A8 n8 c8) n8 X)) ∧ Hid (Gs wx B a bA bn bc xs al (.slice none 0 0) (.slice Ai its.length ci) { s with nx := [] } its) ∧ Hid (Oth a w wx))
  case first =>
    have hacc : Oth a W0 W0.drew := Oth.ofBelow (below_drewN (Below.refl _ _) 1)
    obtain ⟨y0, y1, y2, y3, y4, y5, y6, y7, y8⟩ := ALLS.out _ hacc
    obtain ⟨x0, x1, x2, x3, x4, x5, x6, x7, x8⟩ := ALLS.out _ (Oth.refl a W0)
    have hne0 : W0.heap.size ≠ w.heap.size := by have := HSZ.out; omega
    go_region_held3 (fun w' => w'.cell? ⟨w.heap.size, 0, none⟩ = some (.string p) ∧ w'.cell? ⟨w.heap.size, 1, none⟩ = some (.string nm) ∧ w'.cell? ⟨w.heap.size, 2, none⟩ = some (.int .i64 m) ∧ w'.cell? ⟨w.heap.size, 3, none⟩ = some (.int .i64 u) ∧ w'.cell? ⟨w.heap.size, 4, none⟩ = some (.int .i64 g) ∧ w'.cell? ⟨w.heap.size, 5, none⟩ = some (.int .i64 t) ∧ w'.cell? ⟨w.heap.size, 6, none⟩ = some (.int .i64 z) ∧ w'.cell? ⟨w.heap.size, 7, none⟩ = some (.int .u8 k) ∧ w'.cell? ⟨w.heap.size, 8, none⟩ = some (.string l)) (first | go_keep | (exact ALLS.out _ hacc) | (exact ALLS.out _ (hacc.trans (Oth.ofBelow (mb_new _ _)))) | (exact ALLS.out _ (Oth.ofBelow (mb_new W0 _).drew))) (first
      | (go_at_call 114; (with_reducible refine (REC.out _ (by first | exact BLW.out _ (below_drewN (Below.refl _ _) 1) | exact BLW.out _ (mb_new W0 _).drew)).mono ?_); rintro e w1 ⟨v1, rfl, hrl, hg1, ho1⟩; obtain ⟨A1, c1, rfl, hr1, _, _⟩ := hrl; (first
          | (have hh : Oth a W0 w1 := (Oth.ofBelow (below_drewN (Below.refl W0.heap.size W0) 1)).trans ho1; replace hacc := hh)
          | (have bz1 : BX w1 W0.heap.size 44 #[.string ⟨#[]⟩, .int .i64 0, .int .i64 0, .int .i64 0, .int .i64 0, .int .i64 0, .string ⟨#[]⟩, .slice none 0 0] := (bx_new_drew W0 _ _).oth ho1 (by have h1 := HLT.out; have h2 := HSZ.out; omega); have hh : Oth a W0 w1 := (Oth.ofBelow (mb_new W0 (.cells #[.string ⟨#[]⟩, .int .i64 0, .int .i64 0, .int .i64 0, .int .i64 0, .int .i64 0, .string ⟨#[]⟩, .slice none 0 0] 44)).drew).trans ho1; replace hacc := hh)); have FROM1 := Lib.hid (fun W hb => FRO.out w1 A1 c1 hr1 (OTW.out _ hacc) W hb); have HG1 := Lib.hid hg1; have HO1 := Lib.hid (OTW.out _ hacc); have hne1 : w1.heap.size ≠ w.heap.size := (by have h1 := hacc.2.2.2.1; have h2 := HSZ.out; omega); clear hg1 hr1 ho1)
      | (go_at_call 93; (with_reducible refine (FROM1.out _ (by first | exact Below.refl _ _ | exact mb_new _ _)).mono ?_); rintro e w2 ⟨A8, n8, c8, rfl, hr8, hc8, hm8, ho8, hb8⟩; (first
          | (have bz2 : BX w2 W0.heap.size 44 #[.string ⟨#[]⟩, .int .i64 0, .int .i64 0, .int .i64 0, .int .i64 0, .int .i64 0, .string ⟨#[]⟩, .slice none 0 0] := bz1.later hb8; have hbb : Below w1.heap.size w1 w2 := hb8; have hgw := Lib.hid (show w.heap.size ≤ W0.heap.size by have := HSZ.out; omega); have z0 : w2.cell? ⟨W0.heap.size, 0, none⟩ = some (.string ⟨#[]⟩) := (bz2).cell rfl; have f0 := (bz2).free 0; have z1 : w2.cell? ⟨W0.heap.size, 1, none⟩ = some (.int .i64 0) := (bz2).cell rfl; have f1 := (bz2).free 1; have z2 : w2.cell? ⟨W0.heap.size, 2, none⟩ = some (.int .i64 0) := (bz2).cell rfl; have f2 := (bz2).free 2; have z3 : w2.cell? ⟨W0.heap.size, 3, none⟩ = some (.int .i64 0) := (bz2).cell rfl; have f3 := (bz2).free 3; have z4 : w2.cell? ⟨W0.heap.size, 4, none⟩ = some (.int .i64 0) := (bz2).cell rfl; have f4 := (bz2).free 4; have z5 : w2.cell? ⟨W0.heap.size, 5, none⟩ = some (.int .i64 0) := (bz2).cell rfl; have f5 := (bz2).free 5; have z6 : w2.cell? ⟨W0.heap.size, 6, none⟩ = some (.string ⟨#[]⟩) := (bz2).cell rfl; have f6 := (bz2).free 6; have z7 : w2.cell? ⟨W0.heap.size, 7, none⟩ = some (.slice none 0 0) := (bz2).cell rfl; have f7 := (bz2).free 7)
          | (have bz2 : BX w2 w1.heap.size 44 #[.string ⟨#[]⟩, .int .i64 0, .int .i64 0, .int .i64 0, .int .i64 0, .int .i64 0, .string ⟨#[]⟩, .slice none 0 0] := (BX.new w1 _ _).later hb8; have hbb : Below w1.heap.size w1 w2 := (mb_new w1 (.cells #[.string ⟨#[]⟩, .int .i64 0, .int .i64 0, .int .i64 0, .int .i64 0, .int .i64 0, .string ⟨#[]⟩, .slice none 0 0] 44)).trans (hb8.mono (by simp)); have hgw := Lib.hid (show w.heap.size ≤ w1.heap.size from HO1.out.2.2.2.1); have z0 : w2.cell? ⟨w1.heap.size, 0, none⟩ = some (.string ⟨#[]⟩) := (bz2).cell rfl; have f0 := (bz2).free 0; have z1 : w2.cell? ⟨w1.heap.size, 1, none⟩ = some (.int .i64 0) := (bz2).cell rfl; have f1 := (bz2).free 1; have z2 : w2.cell? ⟨w1.heap.size, 2, none⟩ = some (.int .i64 0) := (bz2).cell rfl; have f2 := (bz2).free 2; have z3 : w2.cell? ⟨w1.heap.size, 3, none⟩ = some (.int .i64 0) := (bz2).cell rfl; have f3 := (bz2).free 3; have z4 : w2.cell? ⟨w1.heap.size, 4, none⟩ = some (.int .i64 0) := (bz2).cell rfl; have f4 := (bz2).free 4; have z5 : w2.cell? ⟨w1.heap.size, 5, none⟩ = some (.int .i64 0) := (bz2).cell rfl; have f5 := (bz2).free 5; have z6 : w2.cell? ⟨w1.heap.size, 6, none⟩ = some (.string ⟨#[]⟩) := (bz2).cell rfl; have f6 := (bz2).free 6; have z7 : w2.cell? ⟨w1.heap.size, 7, none⟩ = some (.slice none 0 0) := (bz2).cell rfl; have f7 := (bz2).free 7)
          | (have hbb : Below w1.heap.size w1 w2 := hb8)); have HG2 := Lib.hid (HG1.out.below hbb); have HD8 := Lib.hid (And.intro hr8 (And.intro hc8 (And.intro hm8 (fun h0 => OBn.base8 (ho8 h0) (show B ≤ _ from Nat.le_trans HBZ.out (Nat.le_trans HO1.out.2.2.2.1 (by first | exact Nat.le_refl _ | (rw [World.size_alloc]; omega)))))))); replace hacc := hacc.trans (Oth.ofBelow hbb); have HO2 := Lib.hid (OTW.out _ hacc); clear hr8 hc8 hm8 ho8 hb8))
    all_goals
      go_wp2
      go_meet
      first
        | exact ⟨_, A8, n8, c8, rfl, rfl, bz2.set8 _ _ _ _ _ _ _ _, ⟨RB.besideB HD8.out.1 (oth_set8 _ _ _ _ _ _ _ _ _ _) (RB.apart8 HD8.out.1 bz2 zero_cells8), HD8.out.2.1, HD8.out.2.2.1, fun h0 => owns_beside (HD8.out.2.2.2 h0) (oth_set8 _ _ _ _ _ _ _ _ _ _) bz2 ne_u8_mem⟩, HG2.out.beside (oth_set8 _ _ _ _ _ _ _ _ _ _) bz2 (Nat.le_trans HBZ.out hgw.out), HO2.out.beside (oth_set8 _ _ _ _ _ _ _ _ _ _) hgw.out⟩
        | exact ⟨w2.heap.size, A8, n8, c8, rfl, rfl, BX.new _ _ _, ⟨(HD8.out.1.alloc (Nat.le_refl _) _).more (by simp), HD8.out.2.1, HD8.out.2.2.1, fun h0 => OBn.alloc (HD8.out.2.2.2 h0) _⟩, HG2.out.below (mb_new w2 _), HO2.out.trans (Oth.ofBelow (mb_new w2 _))⟩
  case rest =>
    obtain ⟨gx, A8, n8, c8, rfl, rfl, BX8, HD8, HG8, HO8⟩ := hcut
    have HBE := Lib.hid (OBL.out _ HO8.out)
    have HLF := Lib.hid (fun W (hb : Below wc.heap.size wc W) => And.intro (show Left W B a bA bn bc xs (.slice Ai its.length ci) its from ⟨_, _, _, HG8.out.below hb⟩) (HBE.out.trans (hb.mono (Nat.le_trans HBZ.out HO8.out.2.2.2.1))))
    clear FRO REC ALLS BLW OTW OBL
    by_cases hE0 : E = 0
    · obtain ⟨e1, e2, e3, e4, e5, e6, e7, e8⟩ := HX.out hE0
      have b4 : wc.cell? ⟨a, 4, none⟩ = some (.slice Ai its.length ci) := HG8.out.box.cell rfl
      by_cases h64 : its.length = 64
      · have h64' : (its.length : Int) = 64 := by omega
        have G5 := Lib.hid (fun W e (he : e = .returned (.int .i64 5)) (hb : Below wc.heap.size wc W) => And.intro (show Gathered W B a bA bn bc xs al (.slice Ai its.length ci) its s e E ⟨Mb.fP RS p nm, Mb.fL RS k l, Mb.kin k, m, u, g, t, Mb.fX k d⟩ by unfold Gathered; rw [if_pos hE0, if_pos (by omega)]; exact ⟨he, (HLF.out W hb).1⟩) (HLF.out W hb).2)
        clear e1 e2 e3 e4 e5 e6 e7 e8 h64 hlen HX
        subst hE0
        go_wp2
        go_ret
        exact G5.out _ _ rfl (Below.refl _ _)
      · have h64' : ¬ (its.length : Int) = 64 := by omega
        have h64'' : decide ((its.length : Int) = 64) = false := decide_eq_false h64'
        have hil : its.length ≤ 64 := by omega
        obtain ⟨i1, hi1, hy0, hy1, hy2⟩ := info_parts info_item
        have GF := Lib.hid (fun W e it' its' (he : e = .returned (.int .i64 0)) (hg : Gs W B a bA bn bc xs al (.slice none 0 0) it' { s with nx := [], out := s.out ++ [(⟨P, L, K, M, U, G, TT, X⟩, s.at_)] } its') (hb : Below B w W) => And.intro (show Gathered W B a bA bn bc xs al (.slice Ai its.length ci) its s e E ⟨Mb.fP RS p nm, Mb.fL RS k l, Mb.kin k, m, u, g, t, Mb.fX k d⟩ by unfold Gathered; rw [if_pos hE0, if_neg (by omega), ← e1, ← e2, ← e3, ← e4, ← e5, ← e6, ← e7, ← e8]; exact ⟨he, _, _, hg⟩) hb)
        clear e1 e2 e3 e4 e5 e6 e7 e8 h64 hlen HX
        subst hE0
        go_upto_region 6 with (fail)
        have HBF := Lib.hid HBE.out
        have HBS := Lib.hid (show B ≤ wc.heap.size from Nat.le_trans HBZ.out HO8.out.2.2.2.1)
        have alls : ∀ W, Below wc.heap.size wc W → W.cell? ⟨a, 4, none⟩ = some (.slice Ai its.length ci) ∧ W.cell? ⟨a, 1, none⟩ = some (.int .i64 (s.at_ : Int)) ∧ W.cell? ⟨gx, 0, none⟩ = some (.string P) ∧ W.cell? ⟨gx, 1, none⟩ = some (.int .i64 K) ∧ W.cell? ⟨gx, 2, none⟩ = some (.int .i64 M) ∧ W.cell? ⟨gx, 3, none⟩ = some (.int .i64 U) ∧ W.cell? ⟨gx, 4, none⟩ = some (.int .i64 G) ∧ W.cell? ⟨gx, 5, none⟩ = some (.int .i64 TT) ∧ W.cell? ⟨gx, 6, none⟩ = some (.string L) ∧ W.cell? ⟨gx, 7, none⟩ = some (.slice A8 n8 c8) := fun W hW => by
          have b := (HG8.out.below hW).box
          have d := BX8.out.later hW
          exact ⟨b.cell rfl, b.cell rfl, d.cell rfl, d.cell rfl, d.cell rfl, d.cell rfl, d.cell rfl, d.cell rfl, d.cell rfl, d.cell rfl⟩
        have ALLS := Lib.hid alls
        clear alls
        have hbw : Below wc.heap.size wc ((wc.alloc (.cells #[.string P, .int .i64 K, .int .i64 M, .int .i64 U, .int .i64 G, .int .i64 TT, .string L, .slice A8 n8 c8, .int .i64 (s.at_ : Int)] 46)).drew) := (mb_new wc _).drew
        have HGB := Lib.hid (HG8.out.below hbw)
        have HDQ := Lib.hid (show RB ((wc.alloc (.cells #[.string P, .int .i64 K, .int .i64 M, .int .i64 U, .int .i64 G, .int .i64 TT, .string L, .slice A8 n8 c8, .int .i64 (s.at_ : Int)] 46)).drew) ((wc.alloc (.cells #[.string P, .int .i64 K, .int .i64 M, .int .i64 U, .int .i64 G, .int .i64 TT, .string L, .slice A8 n8 c8, .int .i64 (s.at_ : Int)] 46)).drew).heap.size A8 n8 X ∧ n8 ≤ c8 ∧ c8 ≤ maxLen ∧ (0 < n8 → OBn ((wc.alloc (.cells #[.string P, .int .i64 K, .int .i64 M, .int .i64 U, .int .i64 G, .int .i64 TT, .string L, .slice A8 n8 c8, .int .i64 (s.at_ : Int)] 46)).drew) B 5 (.slice A8 n8 c8) n8 X) from ⟨(HD8.out.1.below hbw).more hbw.size, HD8.out.2.1, HD8.out.2.2.1, fun h0 => OBn.later (HD8.out.2.2.2 h0) hbw⟩)
        have HXB := Lib.hid (BX8.out.later hbw)
        have NEWS := Lib.hid (fun (j : Nat) u hj => (show ((wc.alloc (.cells #[.string P, .int .i64 K, .int .i64 M, .int .i64 U, .int .i64 G, .int .i64 TT, .string L, .slice A8 n8 c8, .int .i64 (s.at_ : Int)] 46)).drew).cell? ((⟨wc.heap.size, 0, none⟩ : Addr).add j) = some u from news_of wc 46 (c9 (⟨P, L, K, M, U, G, TT, A8, n8, c8, X, s.at_⟩ : It)) j u hj))
        have HSB := Lib.hid (show B ≤ ((wc.alloc (.cells #[.string P, .int .i64 K, .int .i64 M, .int .i64 U, .int .i64 G, .int .i64 TT, .string L, .slice A8 n8 c8, .int .i64 (s.at_ : Int)] 46)).drew).heap.size from Nat.le_trans HBS.out hbw.size)
        obtain ⟨v3, w3, hrun, hown3, hgrow3, hblk⟩ := run_append_rows (P := Tryz.prog) B 37 37 46 i1 (.agg #[.string ⟨#[]⟩, .int .i64 0, .int .i64 0, .int .i64 0, .int .i64 0, .int .i64 0, .string ⟨#[]⟩, .slice none 0 0, .int .i64 0]) 9 104 Tryz.underlying37 hi1 hy0 hy1 hy2 rfl (by decide) (.slice Ai its.length ci) its.length (its.flatMap c9) HGB.out.hit (some ⟨wc.heap.size, 0, none⟩) 1 1 (c9 (⟨P, L, K, M, U, G, TT, A8, n8, c8, X, s.at_⟩ : It)) rfl (fun _ => ⟨_, rfl, NEWS.out⟩) (c9_one (⟨P, L, K, M, U, G, TT, A8, n8, c8, X, s.at_⟩ : It)) (by unfold maxLen; omega) (by omega) HSB.out
        have HFIN := Lib.hid (HGB.out.more (x := (⟨P, L, K, M, U, G, TT, A8, n8, c8, X, s.at_⟩ : It)) hgrow3 (by rw [List.length_append, c9_snoc]; exact hown3) HSB.out HDQ.out)
        have HB3 := Lib.hid (show BX w3 a 79 #[.slice bA bn bc, .int .i64 (s.at_ : Int), al, .slice none 0 0, (.slice Ai its.length ci)] from (hgrow3.block a HGB.out.box.lt (fun e => owns_box HGB.out.hit HGB.out.box ne_item_box e.symm rfl)).trans HGB.out.box)
        have HX3 := Lib.hid (show BX w3 gx 44 _ from (hgrow3.block gx HXB.out.lt (fun e => owns_box HGB.out.hit HXB.out ne_item_mem e.symm rfl)).trans HXB.out)
        have ALL3 := Lib.hid (show w3.cell? ⟨a, 4, none⟩ = some (.slice Ai its.length ci) ∧ w3.cell? ⟨a, 1, none⟩ = some (.int .i64 (s.at_ : Int)) ∧ w3.cell? ⟨gx, 0, none⟩ = some (.string P) ∧ w3.cell? ⟨gx, 1, none⟩ = some (.int .i64 K) ∧ w3.cell? ⟨gx, 2, none⟩ = some (.int .i64 M) ∧ w3.cell? ⟨gx, 3, none⟩ = some (.int .i64 U) ∧ w3.cell? ⟨gx, 4, none⟩ = some (.int .i64 G) ∧ w3.cell? ⟨gx, 5, none⟩ = some (.int .i64 TT) ∧ w3.cell? ⟨gx, 6, none⟩ = some (.string L) ∧ w3.cell? ⟨gx, 7, none⟩ = some (.slice A8 n8 c8) from ⟨HB3.out.cell rfl, HB3.out.cell rfl, HX3.out.cell rfl, HX3.out.cell rfl, HX3.out.cell rfl, HX3.out.cell rfl, HX3.out.cell rfl, HX3.out.cell rfl, HX3.out.cell rfl, HX3.out.cell rfl⟩)
        have f4 := HB3.out.free 4
        have HBW := Lib.hid (HBF.out.trans (hbw.mono HBS.out))
        obtain ⟨A3, c3, rfl, _⟩ := owns_slice hown3
        have HRUN := Lib.hid hrun
        have hne1 : wc.heap.size ≠ a := by have := HG8.out.box.lt; omega
        have hne2 : wc.heap.size ≠ gx := by have := BX8.out.lt; omega
        have hacc : Below wc.heap.size wc wc.drew := below_drewN (Below.refl _ _) 1
        clear hrun hown3 hgrow3 hblk hbw b4
        obtain ⟨y0, y1, y2, y3, y4, y5, y6, y7, y8, y9⟩ := ALLS.out _ hacc
        obtain ⟨x0, x1, x2, x3, x4, x5, x6, x7, x8, x9⟩ := ALLS.out _ (Below.refl _ wc)
        obtain ⟨z0, z1, z2, z3, z4, z5, z6, z7, z8, z9⟩ := ALL3.out
        have ALL4 := Lib.hid (show (w3.setCell ⟨a, 4, none⟩ (.slice A3 (its.length + 1) c3)).cell? ⟨a, 1, none⟩ = some (.int .i64 (s.at_ : Int)) ∧ (w3.setCell ⟨a, 4, none⟩ (.slice A3 (its.length + 1) c3)).cell? ⟨gx, 0, none⟩ = some (.string P) ∧ (w3.setCell ⟨a, 4, none⟩ (.slice A3 (its.length + 1) c3)).cell? ⟨gx, 1, none⟩ = some (.int .i64 K) ∧ (w3.setCell ⟨a, 4, none⟩ (.slice A3 (its.length + 1) c3)).cell? ⟨gx, 2, none⟩ = some (.int .i64 M) ∧ (w3.setCell ⟨a, 4, none⟩ (.slice A3 (its.length + 1) c3)).cell? ⟨gx, 3, none⟩ = some (.int .i64 U) ∧ (w3.setCell ⟨a, 4, none⟩ (.slice A3 (its.length + 1) c3)).cell? ⟨gx, 4, none⟩ = some (.int .i64 G) ∧ (w3.setCell ⟨a, 4, none⟩ (.slice A3 (its.length + 1) c3)).cell? ⟨gx, 5, none⟩ = some (.int .i64 TT) ∧ (w3.setCell ⟨a, 4, none⟩ (.slice A3 (its.length + 1) c3)).cell? ⟨gx, 6, none⟩ = some (.string L) ∧ (w3.setCell ⟨a, 4, none⟩ (.slice A3 (its.length + 1) c3)).cell? ⟨gx, 7, none⟩ = some (.slice A8 n8 c8) from by
          have b := HB3.out.set 4 (.slice A3 (its.length + 1) c3)
          have d := BX.other HX3.out (show gx ≠ a from fun e => box_ne HB3.out HX3.out ne_box_mem e.symm) (j := 4) (.slice A3 (its.length + 1) c3)
          exact ⟨b.cell rfl, d.cell rfl, d.cell rfl, d.cell rfl, d.cell rfl, d.cell rfl, d.cell rfl, d.cell rfl, d.cell rfl⟩)
        obtain ⟨t0, t1, t2, t3, t4, t5, t6, t7, t8, t9⟩ := ALLS.out _ (show Below wc.heap.size wc ((wc.alloc (.cells #[.string P, .int .i64 K, .int .i64 M, .int .i64 U, .int .i64 G, .int .i64 TT, .string L, .slice A8 n8 c8, .int .i64 (s.at_ : Int)] 46)).drew) from (mb_new wc _).drew)
        go_region_law (first
          | (refine step_append_run8 rfl (.tmp 34) (.tmp 42) 37 37 rfl _ _ (by simp [Act.eval]) (by simp [Act.eval]) HRUN.out ?_))
        all_goals
          go_wp2
          go_ret
          exact GF.out _ _ _ _ rfl HFIN.out.1 (HBW.out.trans (HFIN.out.2.mono (Nat.le_refl _)))
    · have hE1 : (E != 0) = true := by simp [hE0]
      have G5 := Lib.hid (fun W e (he : e = .returned (.int .i64 E)) (hb : Below wc.heap.size wc W) => And.intro (show Gathered W B a bA bn bc xs al (.slice Ai its.length ci) its s e E ⟨Mb.fP RS p nm, Mb.fL RS k l, Mb.kin k, m, u, g, t, Mb.fX k d⟩ by unfold Gathered; rw [if_neg hE0]; exact ⟨he, (HLF.out W hb).1⟩) (HLF.out W hb).2)
      clear hE0 HX
      go_wp2
      go_ret
      exact G5.out _ _ rfl (Below.refl _ _)
end
end Go.Proofs.YtjofdgjcbjdhbaaGreatDoor
