/- WALKS OF LAYER 8, EIGHTH PART: a member's bytes, the reference's. -/
import Derived.Test.YtjofdgjcbjdhbaaGreatDoorGe3
import Derived.Test.YtjofdgjcbjdhbaaGreatDoorH5f
import Derived.Deep.AppendLies
import Derived.Deep.RegionHeld3
namespace Go.Proofs.YtjofdgjcbjdhbaaGreatDoor
open Go Go.RowKit
set_option maxHeartbeats 64000000
set_option maxRecDepth 100000
set_option linter.unusedVariables false
/-- AN APPEND WHOSE RUN IS KNOWN, at a step of a region that draws its order. -/
theorem step_append_run8 {P : Program} {w : World} {ops : Array Oper} {o : Oper} {a : Act} {K : Act → World → Prop} {Q : Exit → Act → World → Prop} {E : Prop} (hgd : o.guard = none) (s x : Operand) (t tn : TypeId)
    (ho : o.op = .call { callee := .builtin .append, args := #[s, x], argTypes := #[t, tn] }) (vs vx : Value) (hs : a.eval s = vs) (hx : a.eval x = vx) {v' : Value} {w' : World}
    (hr : (Builtin.append_ #[t, tn] o.type #[vs, vx]).run P w = .ok v' w') (h : K (a.put o.dst v') w') :
    if Region.wanted o (yielded ops a.tmps) = true then Oper.wp P o a w K Q else E := by
  have hw : Region.wanted o (yielded ops a.tmps) = true := by simp [Region.wanted, hgd]
  rw [if_pos hw]
  unfold Oper.wp execOp
  simp only [ho, resolve, invoke, builtin, Sem.run_bind, Sem.run_pure, Result.andThen_ok, List.map_toArray, List.map_cons, List.map_nil, hs, hx, hr]
  exact h
theorem mbLow {w W : World} {o : Obj} (h : Below (w.heap.size + 1) (w.alloc o) W) : Below w.heap.size w W := mb_below (by simpa using h)
theorem mbBox1 {w W : World} {T : TypeId} {cs : Array Value} (h : Below (w.heap.size + 1) (w.alloc (.cells cs T)) W) : BX W w.heap.size T cs := mb_box (by simpa using h)
theorem refmlay_any (p l : ByteArray) (k m u g t : Int) (A : Option Addr) (n c : Nat) (q : Nat) (xs : List Int) (w : World) (ha : RB w w.heap.size A n xs) (hp : p.size ≤ 1000) (hl : l.size ≤ 1000) (hn : n ≤ 100000) (hq : Sf.IsCut p q) (k0 : -9223372036854775808 ≤ k) (k1 : k ≤ 9223372036854775807) :
    Calls Tryz.prog 30 #[.agg #[.string p, .int .i64 k, .int .i64 m, .int .i64 u, .int .i64 g, .int .i64 t, .string l, .slice A n c]] w fun e w' => ∃ v, e = .returned (.tuple #[v, .int .i64 (Mb.may p l k m u g t n)]) ∧ OB w' w.heap.size 5 v (Mb.layM p l q k m u g t xs) ∧ Below w.heap.size w w' := by
  obtain ⟨i0, hi, hz0, hz1, hz2⟩ := info_parts info_u8
  have hxl := ha.1
  have cm := fun W => refmmay_any p l k m u g t A n c W (by omega) (by omega) (by omega)
  by_cases hE : Mb.may p l k m u g t n = 0
  · have hE1 := hE
    rw [← hxl] at hE1
    obtain ⟨f1, f2, f3, f4, f5⟩ := Mb.may_zero hE1
    obtain ⟨m0, m1, u0, u1, g0, g1, t0, t1⟩ := Mb.num_facts f4
    obtain ⟨p1, p3, _⟩ := Mb.path_facts f1
    obtain ⟨l3, _, n4, _, _⟩ := Mb.kind_facts f2 f3 f5
    have ty := Mb.typ_bd k
    have pr := Mb.pre_facts hq
    have na := Mb.nam_facts hq
    have fi := Mb.first_size l
    have rl := Mb.recs_len p l q
    have rm := Mb.recs_mem (p := p) (l := l) (c := q)
    have re := Mb.recs_ok (p := p) (l := l) (c := q) (by omega) (by omega)
    have rs := Mb.recs_size p l q
    have hl5 := (Mb.own_back hq hE1).2.2.1
    have lm := Mb.lay_eq8 (c := q) hE1
    rw [hE] at cm ⊢
    rw [lm]
    have cr := fun W => refmrecs_any p l k m u g t A n c q W (by omega) hq (by omega)
    have cl := fun W (A2 : Option Addr) (c2 : Nat) (hr : RL W W.heap.size A2 (Mb.recsL p l q).length (Mb.recsL p l q)) => reflay6_any A2 _ c2 (Mb.recsL p l q) W hr (by omega) (fun r hr => by
      rcases rm r hr with rfl | rfl
      · exact ⟨(by decide : Mb.kPath.size ≤ 10000), (by omega : p.size ≤ 10000)⟩
      · exact ⟨(by decide : Mb.kLink.size ≤ 10000), (by omega : l.size ≤ 10000)⟩)
    rw [re, show (((0 : Nat) : Int)) = 0 from rfl] at cl
    have cpx := fun W => refhlay_any ⟨#[]⟩ Mb.kPax ⟨#[]⟩ 0 0 0 0 ((Rc.layB (Mb.recsL p l q)).length : Int) 120 W (by decide) (by decide) (by decide) (by omega) (by omega) (by omega) (by omega) (by omega) (by omega) (by omega) (by omega) (by omega) (by omega) (by omega) (by omega)
    rw [← Hh.lay_eq ⟨#[]⟩ Mb.kPax ⟨#[]⟩ 0 0 0 0 ((Rc.layB (Mb.recsL p l q)).length : Int) 120 (by omega) (by omega) (by omega) (by omega) (by omega) (by omega) (by omega) (by omega) (by omega) (by omega), Mb.pax_ok rs] at cpx
    have hl4 := Mb.pax_len rs
    have pxe : Mb.paxB (Rc.layB (Mb.recsL p l q)) = (Hh.layC ⟨#[]⟩ Mb.kPax ⟨#[]⟩ 0 0 0 0 ((Rc.layB (Mb.recsL p l q)).length : Int) 120).1 ++ Mb.fill (Rc.ints (Rc.layB (Mb.recsL p l q))) := rfl
    have cow := fun W => refhlay_any (Mb.pre p q) (Mb.nam p q) (Mb.first l) m u g t (n : Int) (Mb.typ k) W (by omega) (by omega) (by omega) ty.1 ty.2 (by omega) (by omega) (by omega) (by omega) (by omega) (by omega) (by omega) (by omega) (by omega) (by omega)
    rw [← Hh.lay_eq (Mb.pre p q) (Mb.nam p q) (Mb.first l) m u g t (n : Int) (Mb.typ k) (by omega) (by omega) (by omega) (by omega) (by omega) (by omega) (by omega) (by omega) (by omega) (by omega)] at cow
    have oe : Mb.ownB p l q k m u g t xs = (Hh.layC (Mb.pre p q) (Mb.nam p q) (Mb.first l) m u g t (n : Int) (Mb.typ k)).1 ++ Mb.fill xs := by unfold Mb.ownB Mb.hdrB; rw [hxl]
    have hE3 := Mb.own_ok hq hE1
    rw [hxl] at hE3
    rw [hE3] at cow
    have hd5 : (Hh.layC (Mb.pre p q) (Mb.nam p q) (Mb.first l) m u g t (n : Int) (Mb.typ k)).1.length = 512 := by rw [hxl] at hl5; exact hl5
    have cff := fun W (A2 : Option Addr) (c2 : Nat) (hr : RB W W.heap.size A2 (Rc.layB (Mb.recsL p l q)).length (Rc.ints (Rc.layB (Mb.recsL p l q)))) => reffill_any A2 (Rc.layB (Mb.recsL p l q)).length c2 _ W hr (by omega)
    have cfx := fun W (hb : Below w.heap.size w W) => reffill_any A n c xs W ((ha.below hb).more hb.size) (by omega)
    have hfx := Mb.fill_len xs
    have hff := Mb.fill_len (Rc.ints (Rc.layB (Mb.recsL p l q)))
    rw [Rc.ints_len] at hff
    simp only [Mb.fill_eq] at cff cfx
    have rbe : Mb.recB (Mb.recsL p l q) = if (Mb.recsL p l q).length = 0 then [] else Mb.paxB (Rc.layB (Mb.recsL p l q)) := by
      unfold Mb.recB
      by_cases h : Mb.recsL p l q = []
      · rw [if_pos h, h]; rfl
      · rw [if_neg h, if_neg (fun h2 => h (List.eq_nil_of_length_eq_zero h2))]
    rw [oe, rbe, pxe]
    clear oe rbe pxe hE3 hl5 lm re rm f1 f2 f3 f4 f5 hE1 hE
    have cty := fun W => refmtype_any k W k0 k1
    have csp := fun W => refsplit_any p q W (by omega) hq
    rw [parts_val] at csp
    have nf := fun h => Mb.nam_first (s := p) (k := q) h p1
    have fsl : Mb.first l = l.extract 0 (min l.size 100) := rfl
    generalize Rc.layB (Mb.recsL p l q) = RB8 at *
    generalize (Hh.layC ⟨#[]⟩ Mb.kPax ⟨#[]⟩ 0 0 0 0 (RB8.length : Int) 120).1 = HX at *
    generalize (Hh.layC (Mb.pre p q) (Mb.nam p q) (Mb.first l) m u g t (n : Int) (Mb.typ k)).1 = HO at *
    generalize Mb.fill (Rc.ints RB8) = FR at *
    generalize Mb.fill xs = FX at *
    generalize Mb.recsL p l q = L at *
    unfold Mb.kPax at cpx
    have CM := Lib.hid cm; have CR := Lib.hid cr; have CL := Lib.hid cl; have CPX := Lib.hid cpx; have COW := Lib.hid cow; have CFF := Lib.hid cff; have CFX := Lib.hid cfx; have CTY := Lib.hid cty; have CSP := Lib.hid csp; have NF := Lib.hid nf; have FSL := Lib.hid fsl
    have HL4 := Lib.hid hl4; have HD5 := Lib.hid hd5; have HFX := Lib.hid hfx; have HFF := Lib.hid hff; have RS := Lib.hid rs
    clear cm cr cl cpx cow cff cfx cty csp nf fsl hl4 hd5 hfx hff rs rl pr na fi ty m0 m1 u0 u1 g0 g1 t0 t1 l3 hxl
    obtain ⟨mm, hmm⟩ : ∃ mm, mm = min l.size 100 := ⟨_, rfl⟩
    have hmin : min (l.size : Int) 100 = (mm : Int) := by omega
    have hml : mm ≤ l.size := by omega
    by_cases hL : L.length = 0
    · rw [if_pos hL, List.nil_append]
      cases hf : Mb.fits p q with
      | true =>
        have csp := CSP.out
        have cow := COW.out
        rw [FSL.out, ← hmm] at cow
        rw [hf, if_pos rfl] at csp
        have CSP2 := Lib.hid csp; have COW2 := Lib.hid cow
        clear csp cow CSP COW NF FSL hf
        generalize Mb.pre p q = P at *
        generalize Mb.nam p q = N at *
        clear hmm
        go_enter Tryz.func30, Tryz.ntmps30
        go_upto_region 13 with (first
          | (go_at_call 42; (with_reducible refine (CM.out _).mono ?_); rintro e w1 ⟨rfl, hb1⟩; have HA1 := Lib.hid hb1; have q0 : w1.cell? ⟨w.heap.size, 0, none⟩ = some (.string p) := (mbBox hb1).cell rfl; have q1 : w1.cell? ⟨w.heap.size, 1, none⟩ = some (.int .i64 k) := (mbBox hb1).cell rfl; have q2 : w1.cell? ⟨w.heap.size, 2, none⟩ = some (.int .i64 m) := (mbBox hb1).cell rfl; have q3 : w1.cell? ⟨w.heap.size, 3, none⟩ = some (.int .i64 u) := (mbBox hb1).cell rfl; have q4 : w1.cell? ⟨w.heap.size, 4, none⟩ = some (.int .i64 g) := (mbBox hb1).cell rfl; have q5 : w1.cell? ⟨w.heap.size, 5, none⟩ = some (.int .i64 t) := (mbBox hb1).cell rfl; have q6 : w1.cell? ⟨w.heap.size, 6, none⟩ = some (.string l) := (mbBox hb1).cell rfl; have q7 : w1.cell? ⟨w.heap.size, 7, none⟩ = some (.slice A n c) := (mbBox hb1).cell rfl; clear hb1)
          | (go_at_call 43; (with_reducible refine (CR.out _).mono ?_); rintro e w2 ⟨v2, rfl, ho2, hb2⟩; have HA2 := Lib.hid (HA1.out.trans (hb2.mono HA1.out.size)); obtain ⟨A2, c2, rfl, hr2, _, _⟩ := RO.rlv ho2; have r0 : w2.cell? ⟨w.heap.size, 0, none⟩ = some (.string p) := (mbBox HA2.out).cell rfl; have r1 : w2.cell? ⟨w.heap.size, 1, none⟩ = some (.int .i64 k) := (mbBox HA2.out).cell rfl; have r2 : w2.cell? ⟨w.heap.size, 2, none⟩ = some (.int .i64 m) := (mbBox HA2.out).cell rfl; have r3 : w2.cell? ⟨w.heap.size, 3, none⟩ = some (.int .i64 u) := (mbBox HA2.out).cell rfl; have r4 : w2.cell? ⟨w.heap.size, 4, none⟩ = some (.int .i64 g) := (mbBox HA2.out).cell rfl; have r5 : w2.cell? ⟨w.heap.size, 5, none⟩ = some (.int .i64 t) := (mbBox HA2.out).cell rfl; have r6 : w2.cell? ⟨w.heap.size, 6, none⟩ = some (.string l) := (mbBox HA2.out).cell rfl; have r7 : w2.cell? ⟨w.heap.size, 7, none⟩ = some (.slice A n c) := (mbBox HA2.out).cell rfl; clear ho2 hb2 hr2)
          | (go_at_call 47; (with_reducible refine (CSP2.out _).mono ?_); rintro e w7 ⟨rfl, j1, rfl⟩; obtain ⟨W7, hW7⟩ : ∃ W7, W7 = w2.drewN j1 := ⟨_, rfl⟩; rw [← hW7]; have HA7 := Lib.hid (show Below (w.heap.size + 1) (w.alloc (.cells #[.string p, .int .i64 k, .int .i64 m, .int .i64 u, .int .i64 g, .int .i64 t, .string l, .slice A n c] 50)) W7 by rw [hW7]; have h := below_drewN HA2.out j1; simpa using h); have HO7 := Lib.hid (show OBn W7 (w.heap.size + 1) 5 (.slice none 0 0) 0 [] by rw [hW7]; exact (show OBn w2 (w.heap.size + 1) 5 (.slice none 0 0) 0 [] from World.ownsRow_nil _ _ _ _)); have s0 : W7.cell? ⟨w.heap.size, 0, none⟩ = some (.string p) := (mbBox1 HA7.out).cell rfl; have s1 : W7.cell? ⟨w.heap.size, 1, none⟩ = some (.int .i64 k) := (mbBox1 HA7.out).cell rfl; have s2 : W7.cell? ⟨w.heap.size, 2, none⟩ = some (.int .i64 m) := (mbBox1 HA7.out).cell rfl; have s3 : W7.cell? ⟨w.heap.size, 3, none⟩ = some (.int .i64 u) := (mbBox1 HA7.out).cell rfl; have s4 : W7.cell? ⟨w.heap.size, 4, none⟩ = some (.int .i64 g) := (mbBox1 HA7.out).cell rfl; have s5 : W7.cell? ⟨w.heap.size, 5, none⟩ = some (.int .i64 t) := (mbBox1 HA7.out).cell rfl; have s6 : W7.cell? ⟨w.heap.size, 6, none⟩ = some (.string l) := (mbBox1 HA7.out).cell rfl; have s7 : W7.cell? ⟨w.heap.size, 7, none⟩ = some (.slice A n c) := (mbBox1 HA7.out).cell rfl; clear hW7))
        have alls : ∀ W, Below W7.heap.size W7 W → W.cell? ⟨w.heap.size, 0, none⟩ = some (.string p) ∧ W.cell? ⟨w.heap.size, 1, none⟩ = some (.int .i64 k) ∧ W.cell? ⟨w.heap.size, 2, none⟩ = some (.int .i64 m) ∧ W.cell? ⟨w.heap.size, 3, none⟩ = some (.int .i64 u) ∧ W.cell? ⟨w.heap.size, 4, none⟩ = some (.int .i64 g) ∧ W.cell? ⟨w.heap.size, 5, none⟩ = some (.int .i64 t) ∧ W.cell? ⟨w.heap.size, 6, none⟩ = some (.string l) ∧ W.cell? ⟨w.heap.size, 7, none⟩ = some (.slice A n c) := fun W hW => by
          have b := mbBox1 (HA7.out.trans (hW.mono (show w.heap.size + 1 ≤ _ by have := HA7.out.size; simpa using this)))
          exact ⟨b.cell rfl, b.cell rfl, b.cell rfl, b.cell rfl, b.cell rfl, b.cell rfl, b.cell rfl, b.cell rfl⟩
        have hacc : Below W7.heap.size W7 W7.drew := below_drewN (Below.refl _ _) 1
        have ALLS := Lib.hid alls
        obtain ⟨y0, y1, y2, y3, y4, y5, y6, y7⟩ := ALLS.out _ hacc
        go_region_held3 (fun w' => w'.cell? ⟨w.heap.size, 0, none⟩ = some (.string p) ∧ w'.cell? ⟨w.heap.size, 1, none⟩ = some (.int .i64 k) ∧ w'.cell? ⟨w.heap.size, 2, none⟩ = some (.int .i64 m) ∧ w'.cell? ⟨w.heap.size, 3, none⟩ = some (.int .i64 u) ∧ w'.cell? ⟨w.heap.size, 4, none⟩ = some (.int .i64 g) ∧ w'.cell? ⟨w.heap.size, 5, none⟩ = some (.int .i64 t) ∧ w'.cell? ⟨w.heap.size, 6, none⟩ = some (.string l) ∧ w'.cell? ⟨w.heap.size, 7, none⟩ = some (.slice A n c)) (first | go_keep | (exact ALLS.out _ hacc)) (first
          | (go_at_call 48; (with_reducible refine (CTY.out _).mono ?_); rintro e w8 ⟨rfl, hb8⟩; replace hacc := bthen hacc hb8; have z8 := Lib.hid hacc)
          | (go_at_call 45; (with_reducible refine (COW2.out _).mono ?_); rintro e w9 ⟨v9, rfl, ho9, hb9⟩; have HO9 := Lib.hid (show OBn w9 (w.heap.size + 1) 5 v9 512 HO by have h := OB.obn (OB.base ho9 (show w.heap.size + 1 ≤ _ by have := HA7.out.size; have := z8.out.size; simp at *; omega)); rwa [HD5.out] at h); replace hacc := bthen hacc hb9))
        all_goals
          have SZ7 := Lib.hid (show w.heap.size + 1 ≤ W7.heap.size by have := HA7.out.size; simpa using this)
          have HA9 := Lib.hid (HA7.out.trans (hacc.mono SZ7.out))
          have SZ9 := Lib.hid (show w.heap.size + 1 ≤ w9.heap.size by have := hacc.size; have := SZ7.out; omega)
          have HOV := Lib.hid (OBn.later HO7.out hacc)
          have LTV := Lib.hid (fun k hk => (World.ownsRow.lt HOV.out k hk).2)
          obtain ⟨A9, c9, rfl, hr9, _, _⟩ := OBn.slice HO9.out
          have runs : ∀ W, Below w9.heap.size w9 W → ∃ v' W', (Builtin.append_ #[25, 25] 25 #[(.slice none 0 0 : Value), .slice A9 512 c9]).run Tryz.prog W = .ok v' W' ∧ OBn W' (w.heap.size + 1) 5 v' (0 + 512) ([] ++ HO) ∧ W.grownBy W' ((.slice none 0 0 : Value)).ownBlock ∧ Below (w.heap.size + 1) (w.alloc (.cells #[.string p, .int .i64 k, .int .i64 m, .int .i64 u, .int .i64 g, .int .i64 t, .string l, .slice A n c] 50)) W' := fun W hW => by
            obtain ⟨v', W', e1, e2, e3⟩ := run_append_rb (P := Tryz.prog) (w.heap.size + 1) W.heap.size 25 25 5 i0 Tryz.underlying25 hi hz0 hz1 hz2 (.slice none 0 0 : Value) 0 [] (OBn.later HOV.out hW) A9 512 c9 HO ((hr9.below hW).more hW.size) (by have := HFF.out; have := RS.out; omega) (by have := hW.size; have := SZ9.out; omega)
            exact ⟨v', W', e1, e2, e3, below_app6 (HA9.out.trans (hW.mono SZ9.out)) (by simp) (by have h := OBn.later HOV.out hW; unfold OBn at h; simpa using h) e3⟩
          have alls9 : ∀ W, Below (w.heap.size + 1) (w.alloc (.cells #[.string p, .int .i64 k, .int .i64 m, .int .i64 u, .int .i64 g, .int .i64 t, .string l, .slice A n c] 50)) W → W.cell? ⟨w.heap.size, 0, none⟩ = some (.string p) ∧ W.cell? ⟨w.heap.size, 1, none⟩ = some (.int .i64 k) ∧ W.cell? ⟨w.heap.size, 2, none⟩ = some (.int .i64 m) ∧ W.cell? ⟨w.heap.size, 3, none⟩ = some (.int .i64 u) ∧ W.cell? ⟨w.heap.size, 4, none⟩ = some (.int .i64 g) ∧ W.cell? ⟨w.heap.size, 5, none⟩ = some (.int .i64 t) ∧ W.cell? ⟨w.heap.size, 6, none⟩ = some (.string l) ∧ W.cell? ⟨w.heap.size, 7, none⟩ = some (.slice A n c) := fun W hW => by
            have b := mbBox1 hW
            exact ⟨b.cell rfl, b.cell rfl, b.cell rfl, b.cell rfl, b.cell rfl, b.cell rfl, b.cell rfl, b.cell rfl⟩
          have hW9 : Below w9.heap.size w9 w9.drew := below_drewN (Below.refl _ _) 1
          have hnow : Below (w.heap.size + 1) (w.alloc (.cells #[.string p, .int .i64 k, .int .i64 m, .int .i64 u, .int .i64 g, .int .i64 t, .string l, .slice A n c] 50)) w9.drew := HA9.out.trans (hW9.mono SZ9.out)
          have RUNS := Lib.hid runs; have ALLS9 := Lib.hid alls9
          clear runs alls9 hr9 hacc y0 y1 y2 y3 y4 y5 y6 y7 ALLS z8
          obtain ⟨y0, y1, y2, y3, y4, y5, y6, y7⟩ := ALLS9.out _ hnow
          have hsz : w9.heap.size ≤ w9.drew.heap.size := Nat.le_refl _
          go_upto_region 14 with (fail)
          go_region_law (first
            | (obtain ⟨v78, w78, hrun, hown, hgrow, hnew⟩ := RUNS.out _ hW9; refine step_append_run8 rfl (.tmp 76) (.tmp 77) 25 25 rfl _ _ (by simp [Act.eval, Act.put]) (by simp [Act.eval, Act.put]) hrun ?_; (first | (replace HO10 := Lib.hid (OBn.kept HO10.out (fun k hk => hgrow.block k (World.ownsRow.lt HO10.out k hk).2 (fun e => by have h1 := LTV.out k e.symm; have h2 := (World.ownsRow.lt HO10.out k hk).1; omega)))) | skip); have HO78 := Lib.hid hown; replace hnow := hnew; replace hsz := Nat.le_trans hsz hgrow.size; obtain ⟨x0, x1, x2, x3, x4, x5, x6, x7⟩ := ALLS9.out _ hnow; clear hrun hown hgrow hnew)
            | (go_simp; go_at_call 46; (with_reducible refine (CFX.out _ (mbLow hnow)).mono ?_); rintro e w10 ⟨v10, rfl, ho10, hb10⟩; (first | (replace HO78 := Lib.hid (OBn.later HO78.out hb10)) | (replace hW9 := bthen hW9 hb10)); have HO10 := Lib.hid (show OBn w10 w9.heap.size 5 v10 FX.length FX from OB.obn (OB.base ho10 hsz)); replace hsz := Nat.le_trans hsz hb10.size; replace hnow := hnow.trans (hb10.mono (by have := hnow.size; simpa using this)); obtain ⟨A10, c10, rfl, _, _, _⟩ := OBn.slice HO10.out; clear ho10 hb10)
            | (obtain ⟨A11, c11, e11, hr11, _, _⟩ := OBn.slice HO10.out; cases e11; obtain ⟨v12, w12, hrun, hown, hgrow⟩ := run_append_rb (P := Tryz.prog) (w.heap.size + 1) _ 25 25 5 i0 Tryz.underlying25 hi hz0 hz1 hz2 v78 _ _ HO78.out A10 FX.length c10 FX hr11 (by have := HFF.out; have := RS.out; have := HFX.out; omega) (by have := hnow.size; simpa using this); refine step_append_run8 rfl (.tmp 78) (.tmp 81) 25 25 rfl _ _ (by simp [Act.eval]) (by simp [Act.eval]) hrun ?_; have HO12 := Lib.hid hown; have HB12 := Lib.hid (below_app6 hnow (by simp) (by have h := HO78.out; unfold OBn at h; simpa using h) hgrow); clear hrun hown hgrow))
          all_goals
            go_wp2
            go_ret2
            refine ⟨v12, by simp [Act.put], ?_, mbLow HB12.out⟩
            have h := OB.base HO12.out.ob (show w.heap.size ≤ w.heap.size + 1 by omega)
            simpa using h
      | false =>
        obtain ⟨h100, _⟩ := Mb.fits_small hf p1
        have hfp : Mb.first p = p.extract 0 100 := by unfold Mb.first; rw [show min p.size 100 = 100 by omega]
        have h100' : (100 : Nat) ≤ p.size := by omega
        have csp := CSP.out
        have cow := COW.out
        rw [FSL.out, ← hmm] at cow
        obtain ⟨e1, e2⟩ := NF.out hf
        rw [e1, e2, hfp] at cow
        rw [hf, if_neg (by decide)] at csp
        clear e1 e2
        have CSP2 := Lib.hid csp; have COW2 := Lib.hid cow
        clear csp cow CSP COW NF FSL hf
        clear hmm
        go_enter Tryz.func30, Tryz.ntmps30
        go_upto_region 13 with (first
          | (go_at_call 42; (with_reducible refine (CM.out _).mono ?_); rintro e w1 ⟨rfl, hb1⟩; have HA1 := Lib.hid hb1; have q0 : w1.cell? ⟨w.heap.size, 0, none⟩ = some (.string p) := (mbBox hb1).cell rfl; have q1 : w1.cell? ⟨w.heap.size, 1, none⟩ = some (.int .i64 k) := (mbBox hb1).cell rfl; have q2 : w1.cell? ⟨w.heap.size, 2, none⟩ = some (.int .i64 m) := (mbBox hb1).cell rfl; have q3 : w1.cell? ⟨w.heap.size, 3, none⟩ = some (.int .i64 u) := (mbBox hb1).cell rfl; have q4 : w1.cell? ⟨w.heap.size, 4, none⟩ = some (.int .i64 g) := (mbBox hb1).cell rfl; have q5 : w1.cell? ⟨w.heap.size, 5, none⟩ = some (.int .i64 t) := (mbBox hb1).cell rfl; have q6 : w1.cell? ⟨w.heap.size, 6, none⟩ = some (.string l) := (mbBox hb1).cell rfl; have q7 : w1.cell? ⟨w.heap.size, 7, none⟩ = some (.slice A n c) := (mbBox hb1).cell rfl; clear hb1)
          | (go_at_call 43; (with_reducible refine (CR.out _).mono ?_); rintro e w2 ⟨v2, rfl, ho2, hb2⟩; have HA2 := Lib.hid (HA1.out.trans (hb2.mono HA1.out.size)); obtain ⟨A2, c2, rfl, hr2, _, _⟩ := RO.rlv ho2; have r0 : w2.cell? ⟨w.heap.size, 0, none⟩ = some (.string p) := (mbBox HA2.out).cell rfl; have r1 : w2.cell? ⟨w.heap.size, 1, none⟩ = some (.int .i64 k) := (mbBox HA2.out).cell rfl; have r2 : w2.cell? ⟨w.heap.size, 2, none⟩ = some (.int .i64 m) := (mbBox HA2.out).cell rfl; have r3 : w2.cell? ⟨w.heap.size, 3, none⟩ = some (.int .i64 u) := (mbBox HA2.out).cell rfl; have r4 : w2.cell? ⟨w.heap.size, 4, none⟩ = some (.int .i64 g) := (mbBox HA2.out).cell rfl; have r5 : w2.cell? ⟨w.heap.size, 5, none⟩ = some (.int .i64 t) := (mbBox HA2.out).cell rfl; have r6 : w2.cell? ⟨w.heap.size, 6, none⟩ = some (.string l) := (mbBox HA2.out).cell rfl; have r7 : w2.cell? ⟨w.heap.size, 7, none⟩ = some (.slice A n c) := (mbBox HA2.out).cell rfl; clear ho2 hb2 hr2)
          | (go_at_call 47; (with_reducible refine (CSP2.out _).mono ?_); rintro e w7 ⟨rfl, j1, rfl⟩; obtain ⟨W7, hW7⟩ : ∃ W7, W7 = w2.drewN j1 := ⟨_, rfl⟩; rw [← hW7]; have HA7 := Lib.hid (show Below (w.heap.size + 1) (w.alloc (.cells #[.string p, .int .i64 k, .int .i64 m, .int .i64 u, .int .i64 g, .int .i64 t, .string l, .slice A n c] 50)) W7 by rw [hW7]; have h := below_drewN HA2.out j1; simpa using h); have HO7 := Lib.hid (show OBn W7 (w.heap.size + 1) 5 (.slice none 0 0) 0 [] by rw [hW7]; exact (show OBn w2 (w.heap.size + 1) 5 (.slice none 0 0) 0 [] from World.ownsRow_nil _ _ _ _)); have s0 : W7.cell? ⟨w.heap.size, 0, none⟩ = some (.string p) := (mbBox1 HA7.out).cell rfl; have s1 : W7.cell? ⟨w.heap.size, 1, none⟩ = some (.int .i64 k) := (mbBox1 HA7.out).cell rfl; have s2 : W7.cell? ⟨w.heap.size, 2, none⟩ = some (.int .i64 m) := (mbBox1 HA7.out).cell rfl; have s3 : W7.cell? ⟨w.heap.size, 3, none⟩ = some (.int .i64 u) := (mbBox1 HA7.out).cell rfl; have s4 : W7.cell? ⟨w.heap.size, 4, none⟩ = some (.int .i64 g) := (mbBox1 HA7.out).cell rfl; have s5 : W7.cell? ⟨w.heap.size, 5, none⟩ = some (.int .i64 t) := (mbBox1 HA7.out).cell rfl; have s6 : W7.cell? ⟨w.heap.size, 6, none⟩ = some (.string l) := (mbBox1 HA7.out).cell rfl; have s7 : W7.cell? ⟨w.heap.size, 7, none⟩ = some (.slice A n c) := (mbBox1 HA7.out).cell rfl; clear hW7))
        have alls : ∀ W, Below W7.heap.size W7 W → W.cell? ⟨w.heap.size, 0, none⟩ = some (.string p) ∧ W.cell? ⟨w.heap.size, 1, none⟩ = some (.int .i64 k) ∧ W.cell? ⟨w.heap.size, 2, none⟩ = some (.int .i64 m) ∧ W.cell? ⟨w.heap.size, 3, none⟩ = some (.int .i64 u) ∧ W.cell? ⟨w.heap.size, 4, none⟩ = some (.int .i64 g) ∧ W.cell? ⟨w.heap.size, 5, none⟩ = some (.int .i64 t) ∧ W.cell? ⟨w.heap.size, 6, none⟩ = some (.string l) ∧ W.cell? ⟨w.heap.size, 7, none⟩ = some (.slice A n c) := fun W hW => by
          have b := mbBox1 (HA7.out.trans (hW.mono (show w.heap.size + 1 ≤ _ by have := HA7.out.size; simpa using this)))
          exact ⟨b.cell rfl, b.cell rfl, b.cell rfl, b.cell rfl, b.cell rfl, b.cell rfl, b.cell rfl, b.cell rfl⟩
        have hacc : Below W7.heap.size W7 W7.drew := below_drewN (Below.refl _ _) 1
        have ALLS := Lib.hid alls
        obtain ⟨y0, y1, y2, y3, y4, y5, y6, y7⟩ := ALLS.out _ hacc
        go_region_held3 (fun w' => w'.cell? ⟨w.heap.size, 0, none⟩ = some (.string p) ∧ w'.cell? ⟨w.heap.size, 1, none⟩ = some (.int .i64 k) ∧ w'.cell? ⟨w.heap.size, 2, none⟩ = some (.int .i64 m) ∧ w'.cell? ⟨w.heap.size, 3, none⟩ = some (.int .i64 u) ∧ w'.cell? ⟨w.heap.size, 4, none⟩ = some (.int .i64 g) ∧ w'.cell? ⟨w.heap.size, 5, none⟩ = some (.int .i64 t) ∧ w'.cell? ⟨w.heap.size, 6, none⟩ = some (.string l) ∧ w'.cell? ⟨w.heap.size, 7, none⟩ = some (.slice A n c)) (first | go_keep | (exact ALLS.out _ hacc)) (first
          | (go_at_call 48; (with_reducible refine (CTY.out _).mono ?_); rintro e w8 ⟨rfl, hb8⟩; replace hacc := bthen hacc hb8; have z8 := Lib.hid hacc)
          | (go_at_call 45; (with_reducible refine (COW2.out _).mono ?_); rintro e w9 ⟨v9, rfl, ho9, hb9⟩; have HO9 := Lib.hid (show OBn w9 (w.heap.size + 1) 5 v9 512 HO by have h := OB.obn (OB.base ho9 (show w.heap.size + 1 ≤ _ by have := HA7.out.size; have := z8.out.size; simp at *; omega)); rwa [HD5.out] at h); replace hacc := bthen hacc hb9))
        all_goals
          have SZ7 := Lib.hid (show w.heap.size + 1 ≤ W7.heap.size by have := HA7.out.size; simpa using this)
          have HA9 := Lib.hid (HA7.out.trans (hacc.mono SZ7.out))
          have SZ9 := Lib.hid (show w.heap.size + 1 ≤ w9.heap.size by have := hacc.size; have := SZ7.out; omega)
          have HOV := Lib.hid (OBn.later HO7.out hacc)
          have LTV := Lib.hid (fun k hk => (World.ownsRow.lt HOV.out k hk).2)
          obtain ⟨A9, c9, rfl, hr9, _, _⟩ := OBn.slice HO9.out
          have runs : ∀ W, Below w9.heap.size w9 W → ∃ v' W', (Builtin.append_ #[25, 25] 25 #[(.slice none 0 0 : Value), .slice A9 512 c9]).run Tryz.prog W = .ok v' W' ∧ OBn W' (w.heap.size + 1) 5 v' (0 + 512) ([] ++ HO) ∧ W.grownBy W' ((.slice none 0 0 : Value)).ownBlock ∧ Below (w.heap.size + 1) (w.alloc (.cells #[.string p, .int .i64 k, .int .i64 m, .int .i64 u, .int .i64 g, .int .i64 t, .string l, .slice A n c] 50)) W' := fun W hW => by
            obtain ⟨v', W', e1, e2, e3⟩ := run_append_rb (P := Tryz.prog) (w.heap.size + 1) W.heap.size 25 25 5 i0 Tryz.underlying25 hi hz0 hz1 hz2 (.slice none 0 0 : Value) 0 [] (OBn.later HOV.out hW) A9 512 c9 HO ((hr9.below hW).more hW.size) (by have := HFF.out; have := RS.out; omega) (by have := hW.size; have := SZ9.out; omega)
            exact ⟨v', W', e1, e2, e3, below_app6 (HA9.out.trans (hW.mono SZ9.out)) (by simp) (by have h := OBn.later HOV.out hW; unfold OBn at h; simpa using h) e3⟩
          have alls9 : ∀ W, Below (w.heap.size + 1) (w.alloc (.cells #[.string p, .int .i64 k, .int .i64 m, .int .i64 u, .int .i64 g, .int .i64 t, .string l, .slice A n c] 50)) W → W.cell? ⟨w.heap.size, 0, none⟩ = some (.string p) ∧ W.cell? ⟨w.heap.size, 1, none⟩ = some (.int .i64 k) ∧ W.cell? ⟨w.heap.size, 2, none⟩ = some (.int .i64 m) ∧ W.cell? ⟨w.heap.size, 3, none⟩ = some (.int .i64 u) ∧ W.cell? ⟨w.heap.size, 4, none⟩ = some (.int .i64 g) ∧ W.cell? ⟨w.heap.size, 5, none⟩ = some (.int .i64 t) ∧ W.cell? ⟨w.heap.size, 6, none⟩ = some (.string l) ∧ W.cell? ⟨w.heap.size, 7, none⟩ = some (.slice A n c) := fun W hW => by
            have b := mbBox1 hW
            exact ⟨b.cell rfl, b.cell rfl, b.cell rfl, b.cell rfl, b.cell rfl, b.cell rfl, b.cell rfl, b.cell rfl⟩
          have hW9 : Below w9.heap.size w9 w9.drew := below_drewN (Below.refl _ _) 1
          have hnow : Below (w.heap.size + 1) (w.alloc (.cells #[.string p, .int .i64 k, .int .i64 m, .int .i64 u, .int .i64 g, .int .i64 t, .string l, .slice A n c] 50)) w9.drew := HA9.out.trans (hW9.mono SZ9.out)
          have RUNS := Lib.hid runs; have ALLS9 := Lib.hid alls9
          clear runs alls9 hr9 hacc y0 y1 y2 y3 y4 y5 y6 y7 ALLS z8
          obtain ⟨y0, y1, y2, y3, y4, y5, y6, y7⟩ := ALLS9.out _ hnow
          have hsz : w9.heap.size ≤ w9.drew.heap.size := Nat.le_refl _
          go_upto_region 14 with (fail)
          go_region_law (first
            | (obtain ⟨v78, w78, hrun, hown, hgrow, hnew⟩ := RUNS.out _ hW9; refine step_append_run8 rfl (.tmp 76) (.tmp 77) 25 25 rfl _ _ (by simp [Act.eval, Act.put]) (by simp [Act.eval, Act.put]) hrun ?_; (first | (replace HO10 := Lib.hid (OBn.kept HO10.out (fun k hk => hgrow.block k (World.ownsRow.lt HO10.out k hk).2 (fun e => by have h1 := LTV.out k e.symm; have h2 := (World.ownsRow.lt HO10.out k hk).1; omega)))) | skip); have HO78 := Lib.hid hown; replace hnow := hnew; replace hsz := Nat.le_trans hsz hgrow.size; obtain ⟨x0, x1, x2, x3, x4, x5, x6, x7⟩ := ALLS9.out _ hnow; clear hrun hown hgrow hnew)
            | (go_simp; go_at_call 46; (with_reducible refine (CFX.out _ (mbLow hnow)).mono ?_); rintro e w10 ⟨v10, rfl, ho10, hb10⟩; (first | (replace HO78 := Lib.hid (OBn.later HO78.out hb10)) | (replace hW9 := bthen hW9 hb10)); have HO10 := Lib.hid (show OBn w10 w9.heap.size 5 v10 FX.length FX from OB.obn (OB.base ho10 hsz)); replace hsz := Nat.le_trans hsz hb10.size; replace hnow := hnow.trans (hb10.mono (by have := hnow.size; simpa using this)); obtain ⟨A10, c10, rfl, _, _, _⟩ := OBn.slice HO10.out; clear ho10 hb10)
            | (obtain ⟨A11, c11, e11, hr11, _, _⟩ := OBn.slice HO10.out; cases e11; obtain ⟨v12, w12, hrun, hown, hgrow⟩ := run_append_rb (P := Tryz.prog) (w.heap.size + 1) _ 25 25 5 i0 Tryz.underlying25 hi hz0 hz1 hz2 v78 _ _ HO78.out A10 FX.length c10 FX hr11 (by have := HFF.out; have := RS.out; have := HFX.out; omega) (by have := hnow.size; simpa using this); refine step_append_run8 rfl (.tmp 78) (.tmp 81) 25 25 rfl _ _ (by simp [Act.eval]) (by simp [Act.eval]) hrun ?_; have HO12 := Lib.hid hown; have HB12 := Lib.hid (below_app6 hnow (by simp) (by have h := HO78.out; unfold OBn at h; simpa using h) hgrow); clear hrun hown hgrow))
          all_goals
            go_wp2
            go_ret2
            refine ⟨v12, by simp [Act.put], ?_, mbLow HB12.out⟩
            have h := OB.base HO12.out.ob (show w.heap.size ≤ w.heap.size + 1 by omega)
            simpa using h
    · rw [if_neg hL]
      have hL' : (0 : Int) < L.length := by omega
      cases hf : Mb.fits p q with
      | true =>
        have csp := CSP.out
        have cow := COW.out
        rw [FSL.out, ← hmm] at cow
        rw [hf, if_pos rfl] at csp
        have CSP2 := Lib.hid csp; have COW2 := Lib.hid cow
        clear csp cow CSP COW NF FSL hf
        generalize Mb.pre p q = P at *
        generalize Mb.nam p q = N at *
        clear hmm
        go_enter Tryz.func30, Tryz.ntmps30
        go_upto_region 13 with (first
          | (go_at_call 42; (with_reducible refine (CM.out _).mono ?_); rintro e w1 ⟨rfl, hb1⟩; have HA1 := Lib.hid hb1; have q0 : w1.cell? ⟨w.heap.size, 0, none⟩ = some (.string p) := (mbBox hb1).cell rfl; have q1 : w1.cell? ⟨w.heap.size, 1, none⟩ = some (.int .i64 k) := (mbBox hb1).cell rfl; have q2 : w1.cell? ⟨w.heap.size, 2, none⟩ = some (.int .i64 m) := (mbBox hb1).cell rfl; have q3 : w1.cell? ⟨w.heap.size, 3, none⟩ = some (.int .i64 u) := (mbBox hb1).cell rfl; have q4 : w1.cell? ⟨w.heap.size, 4, none⟩ = some (.int .i64 g) := (mbBox hb1).cell rfl; have q5 : w1.cell? ⟨w.heap.size, 5, none⟩ = some (.int .i64 t) := (mbBox hb1).cell rfl; have q6 : w1.cell? ⟨w.heap.size, 6, none⟩ = some (.string l) := (mbBox hb1).cell rfl; have q7 : w1.cell? ⟨w.heap.size, 7, none⟩ = some (.slice A n c) := (mbBox hb1).cell rfl; clear hb1)
          | (go_at_call 43; (with_reducible refine (CR.out _).mono ?_); rintro e w2 ⟨v2, rfl, ho2, hb2⟩; have HA2 := Lib.hid (HA1.out.trans (hb2.mono HA1.out.size)); obtain ⟨A2, c2, rfl, hr2, _, _⟩ := RO.rlv ho2; have HR2 := Lib.hid hr2; clear ho2 hb2 hr2)
          | (go_at_call 44; (with_reducible refine (CL.out _ _ _ HR2.out).mono ?_); rintro e w3 ⟨u3, rfl, hr3, hb3⟩; have HA3 := Lib.hid (HA2.out.trans (hb3.mono HA2.out.size)); obtain ⟨A3, c3, rfl, hr3, _, _⟩ := hr3; have HR3 := Lib.hid hr3; clear hb3 hr3)
          | (go_at_call 45; (with_reducible refine (CPX.out _).mono ?_); rintro e w4 ⟨v4, rfl, ho4, hb4⟩; have HA4 := Lib.hid (HA3.out.trans (hb4.mono HA3.out.size)); have HR4 := Lib.hid ((HR3.out.below hb4).more hb4.size); have HO4 := Lib.hid (show OBn w4 (w.heap.size + 1) 5 v4 512 HX by have h := OB.obn (OB.base ho4 (show w.heap.size + 1 ≤ _ by have := HA3.out.size; simpa using this)); rwa [HL4.out] at h); clear hb4 ho4)
          | (go_at_call 46; (with_reducible refine (CFF.out _ _ _ HR4.out).mono ?_); rintro e w5 ⟨v5, rfl, ho5, hb5⟩; have HA5 := Lib.hid (HA4.out.trans (hb5.mono HA4.out.size)); have HO5 := Lib.hid (OBn.later HO4.out hb5); obtain ⟨A5, c5, rfl, hr5, _, _⟩ := ho5.rb; have HR5 := Lib.hid hr5; clear hb5 ho5 hr5)
          | (at_builtin; obtain ⟨v6, w6, hrun, hown, hgrow⟩ := run_append_rb (P := Tryz.prog) (w.heap.size + 1) w5.heap.size 25 25 5 i0 Tryz.underlying25 hi hz0 hz1 hz2 v4 512 HX HO5.out A5 FR.length c5 FR HR5.out (by have := HFF.out; have := RS.out; omega) (by have := HA5.out.size; simpa using this); have HO6 := Lib.hid hown; have HA6 := Lib.hid (below_app6 HA5.out (by simp) (by have h := HO5.out; unfold OBn at h; simpa using h) hgrow); have r0 : w6.cell? ⟨w.heap.size, 0, none⟩ = some (.string p) := (mbBox HA6.out).cell rfl; have r1 : w6.cell? ⟨w.heap.size, 1, none⟩ = some (.int .i64 k) := (mbBox HA6.out).cell rfl; have r2 : w6.cell? ⟨w.heap.size, 2, none⟩ = some (.int .i64 m) := (mbBox HA6.out).cell rfl; have r3 : w6.cell? ⟨w.heap.size, 3, none⟩ = some (.int .i64 u) := (mbBox HA6.out).cell rfl; have r4 : w6.cell? ⟨w.heap.size, 4, none⟩ = some (.int .i64 g) := (mbBox HA6.out).cell rfl; have r5 : w6.cell? ⟨w.heap.size, 5, none⟩ = some (.int .i64 t) := (mbBox HA6.out).cell rfl; have r6 : w6.cell? ⟨w.heap.size, 6, none⟩ = some (.string l) := (mbBox HA6.out).cell rfl; have r7 : w6.cell? ⟨w.heap.size, 7, none⟩ = some (.slice A n c) := (mbBox HA6.out).cell rfl; refine Lib.wpList_append_run _ rfl _ _ 25 25 rfl _ _ rfl rfl _ _ hrun ?_; clear hrun hown hgrow)
          | (go_at_call 47; (with_reducible refine (CSP2.out _).mono ?_); rintro e w7 ⟨rfl, j1, rfl⟩; obtain ⟨W7, hW7⟩ : ∃ W7, W7 = w6.drewN j1 := ⟨_, rfl⟩; rw [← hW7]; have HA7 := Lib.hid (show Below (w.heap.size + 1) (w.alloc (.cells #[.string p, .int .i64 k, .int .i64 m, .int .i64 u, .int .i64 g, .int .i64 t, .string l, .slice A n c] 50)) W7 by rw [hW7]; have h := below_drewN HA6.out j1; simpa using h); have HO7 := Lib.hid (show OBn W7 (w.heap.size + 1) 5 (v6) (512 + FR.length) (HX ++ FR) by rw [hW7]; exact HO6.out); have s0 : W7.cell? ⟨w.heap.size, 0, none⟩ = some (.string p) := (mbBox1 HA7.out).cell rfl; have s1 : W7.cell? ⟨w.heap.size, 1, none⟩ = some (.int .i64 k) := (mbBox1 HA7.out).cell rfl; have s2 : W7.cell? ⟨w.heap.size, 2, none⟩ = some (.int .i64 m) := (mbBox1 HA7.out).cell rfl; have s3 : W7.cell? ⟨w.heap.size, 3, none⟩ = some (.int .i64 u) := (mbBox1 HA7.out).cell rfl; have s4 : W7.cell? ⟨w.heap.size, 4, none⟩ = some (.int .i64 g) := (mbBox1 HA7.out).cell rfl; have s5 : W7.cell? ⟨w.heap.size, 5, none⟩ = some (.int .i64 t) := (mbBox1 HA7.out).cell rfl; have s6 : W7.cell? ⟨w.heap.size, 6, none⟩ = some (.string l) := (mbBox1 HA7.out).cell rfl; have s7 : W7.cell? ⟨w.heap.size, 7, none⟩ = some (.slice A n c) := (mbBox1 HA7.out).cell rfl; clear hW7))
        have alls : ∀ W, Below W7.heap.size W7 W → W.cell? ⟨w.heap.size, 0, none⟩ = some (.string p) ∧ W.cell? ⟨w.heap.size, 1, none⟩ = some (.int .i64 k) ∧ W.cell? ⟨w.heap.size, 2, none⟩ = some (.int .i64 m) ∧ W.cell? ⟨w.heap.size, 3, none⟩ = some (.int .i64 u) ∧ W.cell? ⟨w.heap.size, 4, none⟩ = some (.int .i64 g) ∧ W.cell? ⟨w.heap.size, 5, none⟩ = some (.int .i64 t) ∧ W.cell? ⟨w.heap.size, 6, none⟩ = some (.string l) ∧ W.cell? ⟨w.heap.size, 7, none⟩ = some (.slice A n c) := fun W hW => by
          have b := mbBox1 (HA7.out.trans (hW.mono (show w.heap.size + 1 ≤ _ by have := HA7.out.size; simpa using this)))
          exact ⟨b.cell rfl, b.cell rfl, b.cell rfl, b.cell rfl, b.cell rfl, b.cell rfl, b.cell rfl, b.cell rfl⟩
        have hacc : Below W7.heap.size W7 W7.drew := below_drewN (Below.refl _ _) 1
        have ALLS := Lib.hid alls
        obtain ⟨y0, y1, y2, y3, y4, y5, y6, y7⟩ := ALLS.out _ hacc
        go_region_held3 (fun w' => w'.cell? ⟨w.heap.size, 0, none⟩ = some (.string p) ∧ w'.cell? ⟨w.heap.size, 1, none⟩ = some (.int .i64 k) ∧ w'.cell? ⟨w.heap.size, 2, none⟩ = some (.int .i64 m) ∧ w'.cell? ⟨w.heap.size, 3, none⟩ = some (.int .i64 u) ∧ w'.cell? ⟨w.heap.size, 4, none⟩ = some (.int .i64 g) ∧ w'.cell? ⟨w.heap.size, 5, none⟩ = some (.int .i64 t) ∧ w'.cell? ⟨w.heap.size, 6, none⟩ = some (.string l) ∧ w'.cell? ⟨w.heap.size, 7, none⟩ = some (.slice A n c)) (first | go_keep | (exact ALLS.out _ hacc)) (first
          | (go_at_call 48; (with_reducible refine (CTY.out _).mono ?_); rintro e w8 ⟨rfl, hb8⟩; replace hacc := bthen hacc hb8; have z8 := Lib.hid hacc)
          | (go_at_call 45; (with_reducible refine (COW2.out _).mono ?_); rintro e w9 ⟨v9, rfl, ho9, hb9⟩; have HO9 := Lib.hid (show OBn w9 (w.heap.size + 1) 5 v9 512 HO by have h := OB.obn (OB.base ho9 (show w.heap.size + 1 ≤ _ by have := HA7.out.size; have := z8.out.size; simp at *; omega)); rwa [HD5.out] at h); replace hacc := bthen hacc hb9))
        all_goals
          have SZ7 := Lib.hid (show w.heap.size + 1 ≤ W7.heap.size by have := HA7.out.size; simpa using this)
          have HA9 := Lib.hid (HA7.out.trans (hacc.mono SZ7.out))
          have SZ9 := Lib.hid (show w.heap.size + 1 ≤ w9.heap.size by have := hacc.size; have := SZ7.out; omega)
          have HOV := Lib.hid (OBn.later HO7.out hacc)
          have LTV := Lib.hid (fun k hk => (World.ownsRow.lt HOV.out k hk).2)
          obtain ⟨A9, c9, rfl, hr9, _, _⟩ := OBn.slice HO9.out
          have runs : ∀ W, Below w9.heap.size w9 W → ∃ v' W', (Builtin.append_ #[25, 25] 25 #[(v6 : Value), .slice A9 512 c9]).run Tryz.prog W = .ok v' W' ∧ OBn W' (w.heap.size + 1) 5 v' ((512 + FR.length) + 512) ((HX ++ FR) ++ HO) ∧ W.grownBy W' ((v6 : Value)).ownBlock ∧ Below (w.heap.size + 1) (w.alloc (.cells #[.string p, .int .i64 k, .int .i64 m, .int .i64 u, .int .i64 g, .int .i64 t, .string l, .slice A n c] 50)) W' := fun W hW => by
            obtain ⟨v', W', e1, e2, e3⟩ := run_append_rb (P := Tryz.prog) (w.heap.size + 1) W.heap.size 25 25 5 i0 Tryz.underlying25 hi hz0 hz1 hz2 (v6 : Value) (512 + FR.length) (HX ++ FR) (OBn.later HOV.out hW) A9 512 c9 HO ((hr9.below hW).more hW.size) (by have := HFF.out; have := RS.out; omega) (by have := hW.size; have := SZ9.out; omega)
            exact ⟨v', W', e1, e2, e3, below_app6 (HA9.out.trans (hW.mono SZ9.out)) (by simp) (by have h := OBn.later HOV.out hW; unfold OBn at h; simpa using h) e3⟩
          have alls9 : ∀ W, Below (w.heap.size + 1) (w.alloc (.cells #[.string p, .int .i64 k, .int .i64 m, .int .i64 u, .int .i64 g, .int .i64 t, .string l, .slice A n c] 50)) W → W.cell? ⟨w.heap.size, 0, none⟩ = some (.string p) ∧ W.cell? ⟨w.heap.size, 1, none⟩ = some (.int .i64 k) ∧ W.cell? ⟨w.heap.size, 2, none⟩ = some (.int .i64 m) ∧ W.cell? ⟨w.heap.size, 3, none⟩ = some (.int .i64 u) ∧ W.cell? ⟨w.heap.size, 4, none⟩ = some (.int .i64 g) ∧ W.cell? ⟨w.heap.size, 5, none⟩ = some (.int .i64 t) ∧ W.cell? ⟨w.heap.size, 6, none⟩ = some (.string l) ∧ W.cell? ⟨w.heap.size, 7, none⟩ = some (.slice A n c) := fun W hW => by
            have b := mbBox1 hW
            exact ⟨b.cell rfl, b.cell rfl, b.cell rfl, b.cell rfl, b.cell rfl, b.cell rfl, b.cell rfl, b.cell rfl⟩
          have hW9 : Below w9.heap.size w9 w9.drew := below_drewN (Below.refl _ _) 1
          have hnow : Below (w.heap.size + 1) (w.alloc (.cells #[.string p, .int .i64 k, .int .i64 m, .int .i64 u, .int .i64 g, .int .i64 t, .string l, .slice A n c] 50)) w9.drew := HA9.out.trans (hW9.mono SZ9.out)
          have RUNS := Lib.hid runs; have ALLS9 := Lib.hid alls9
          clear runs alls9 hr9 hacc y0 y1 y2 y3 y4 y5 y6 y7 ALLS z8
          obtain ⟨y0, y1, y2, y3, y4, y5, y6, y7⟩ := ALLS9.out _ hnow
          have hsz : w9.heap.size ≤ w9.drew.heap.size := Nat.le_refl _
          go_upto_region 14 with (fail)
          go_region_law (first
            | (obtain ⟨v78, w78, hrun, hown, hgrow, hnew⟩ := RUNS.out _ hW9; refine step_append_run8 rfl (.tmp 76) (.tmp 77) 25 25 rfl _ _ (by simp [Act.eval, Act.put]) (by simp [Act.eval, Act.put]) hrun ?_; (first | (replace HO10 := Lib.hid (OBn.kept HO10.out (fun k hk => hgrow.block k (World.ownsRow.lt HO10.out k hk).2 (fun e => by have h1 := LTV.out k e.symm; have h2 := (World.ownsRow.lt HO10.out k hk).1; omega)))) | skip); have HO78 := Lib.hid hown; replace hnow := hnew; replace hsz := Nat.le_trans hsz hgrow.size; obtain ⟨x0, x1, x2, x3, x4, x5, x6, x7⟩ := ALLS9.out _ hnow; clear hrun hown hgrow hnew)
            | (go_simp; go_at_call 46; (with_reducible refine (CFX.out _ (mbLow hnow)).mono ?_); rintro e w10 ⟨v10, rfl, ho10, hb10⟩; (first | (replace HO78 := Lib.hid (OBn.later HO78.out hb10)) | (replace hW9 := bthen hW9 hb10)); have HO10 := Lib.hid (show OBn w10 w9.heap.size 5 v10 FX.length FX from OB.obn (OB.base ho10 hsz)); replace hsz := Nat.le_trans hsz hb10.size; replace hnow := hnow.trans (hb10.mono (by have := hnow.size; simpa using this)); obtain ⟨A10, c10, rfl, _, _, _⟩ := OBn.slice HO10.out; clear ho10 hb10)
            | (obtain ⟨A11, c11, e11, hr11, _, _⟩ := OBn.slice HO10.out; cases e11; obtain ⟨v12, w12, hrun, hown, hgrow⟩ := run_append_rb (P := Tryz.prog) (w.heap.size + 1) _ 25 25 5 i0 Tryz.underlying25 hi hz0 hz1 hz2 v78 _ _ HO78.out A10 FX.length c10 FX hr11 (by have := HFF.out; have := RS.out; have := HFX.out; omega) (by have := hnow.size; simpa using this); refine step_append_run8 rfl (.tmp 78) (.tmp 81) 25 25 rfl _ _ (by simp [Act.eval]) (by simp [Act.eval]) hrun ?_; have HO12 := Lib.hid hown; have HB12 := Lib.hid (below_app6 hnow (by simp) (by have h := HO78.out; unfold OBn at h; simpa using h) hgrow); clear hrun hown hgrow))
          all_goals
            go_wp2
            go_ret2
            refine ⟨v12, by simp [Act.put], ?_, mbLow HB12.out⟩
            have h := OB.base HO12.out.ob (show w.heap.size ≤ w.heap.size + 1 by omega)
            simpa using h
      | false =>
        obtain ⟨h100, _⟩ := Mb.fits_small hf p1
        have hfp : Mb.first p = p.extract 0 100 := by unfold Mb.first; rw [show min p.size 100 = 100 by omega]
        have h100' : (100 : Nat) ≤ p.size := by omega
        have csp := CSP.out
        have cow := COW.out
        rw [FSL.out, ← hmm] at cow
        obtain ⟨e1, e2⟩ := NF.out hf
        rw [e1, e2, hfp] at cow
        rw [hf, if_neg (by decide)] at csp
        clear e1 e2
        have CSP2 := Lib.hid csp; have COW2 := Lib.hid cow
        clear csp cow CSP COW NF FSL hf
        clear hmm
        go_enter Tryz.func30, Tryz.ntmps30
        go_upto_region 13 with (first
          | (go_at_call 42; (with_reducible refine (CM.out _).mono ?_); rintro e w1 ⟨rfl, hb1⟩; have HA1 := Lib.hid hb1; have q0 : w1.cell? ⟨w.heap.size, 0, none⟩ = some (.string p) := (mbBox hb1).cell rfl; have q1 : w1.cell? ⟨w.heap.size, 1, none⟩ = some (.int .i64 k) := (mbBox hb1).cell rfl; have q2 : w1.cell? ⟨w.heap.size, 2, none⟩ = some (.int .i64 m) := (mbBox hb1).cell rfl; have q3 : w1.cell? ⟨w.heap.size, 3, none⟩ = some (.int .i64 u) := (mbBox hb1).cell rfl; have q4 : w1.cell? ⟨w.heap.size, 4, none⟩ = some (.int .i64 g) := (mbBox hb1).cell rfl; have q5 : w1.cell? ⟨w.heap.size, 5, none⟩ = some (.int .i64 t) := (mbBox hb1).cell rfl; have q6 : w1.cell? ⟨w.heap.size, 6, none⟩ = some (.string l) := (mbBox hb1).cell rfl; have q7 : w1.cell? ⟨w.heap.size, 7, none⟩ = some (.slice A n c) := (mbBox hb1).cell rfl; clear hb1)
          | (go_at_call 43; (with_reducible refine (CR.out _).mono ?_); rintro e w2 ⟨v2, rfl, ho2, hb2⟩; have HA2 := Lib.hid (HA1.out.trans (hb2.mono HA1.out.size)); obtain ⟨A2, c2, rfl, hr2, _, _⟩ := RO.rlv ho2; have HR2 := Lib.hid hr2; clear ho2 hb2 hr2)
          | (go_at_call 44; (with_reducible refine (CL.out _ _ _ HR2.out).mono ?_); rintro e w3 ⟨u3, rfl, hr3, hb3⟩; have HA3 := Lib.hid (HA2.out.trans (hb3.mono HA2.out.size)); obtain ⟨A3, c3, rfl, hr3, _, _⟩ := hr3; have HR3 := Lib.hid hr3; clear hb3 hr3)
          | (go_at_call 45; (with_reducible refine (CPX.out _).mono ?_); rintro e w4 ⟨v4, rfl, ho4, hb4⟩; have HA4 := Lib.hid (HA3.out.trans (hb4.mono HA3.out.size)); have HR4 := Lib.hid ((HR3.out.below hb4).more hb4.size); have HO4 := Lib.hid (show OBn w4 (w.heap.size + 1) 5 v4 512 HX by have h := OB.obn (OB.base ho4 (show w.heap.size + 1 ≤ _ by have := HA3.out.size; simpa using this)); rwa [HL4.out] at h); clear hb4 ho4)
          | (go_at_call 46; (with_reducible refine (CFF.out _ _ _ HR4.out).mono ?_); rintro e w5 ⟨v5, rfl, ho5, hb5⟩; have HA5 := Lib.hid (HA4.out.trans (hb5.mono HA4.out.size)); have HO5 := Lib.hid (OBn.later HO4.out hb5); obtain ⟨A5, c5, rfl, hr5, _, _⟩ := ho5.rb; have HR5 := Lib.hid hr5; clear hb5 ho5 hr5)
          | (at_builtin; obtain ⟨v6, w6, hrun, hown, hgrow⟩ := run_append_rb (P := Tryz.prog) (w.heap.size + 1) w5.heap.size 25 25 5 i0 Tryz.underlying25 hi hz0 hz1 hz2 v4 512 HX HO5.out A5 FR.length c5 FR HR5.out (by have := HFF.out; have := RS.out; omega) (by have := HA5.out.size; simpa using this); have HO6 := Lib.hid hown; have HA6 := Lib.hid (below_app6 HA5.out (by simp) (by have h := HO5.out; unfold OBn at h; simpa using h) hgrow); have r0 : w6.cell? ⟨w.heap.size, 0, none⟩ = some (.string p) := (mbBox HA6.out).cell rfl; have r1 : w6.cell? ⟨w.heap.size, 1, none⟩ = some (.int .i64 k) := (mbBox HA6.out).cell rfl; have r2 : w6.cell? ⟨w.heap.size, 2, none⟩ = some (.int .i64 m) := (mbBox HA6.out).cell rfl; have r3 : w6.cell? ⟨w.heap.size, 3, none⟩ = some (.int .i64 u) := (mbBox HA6.out).cell rfl; have r4 : w6.cell? ⟨w.heap.size, 4, none⟩ = some (.int .i64 g) := (mbBox HA6.out).cell rfl; have r5 : w6.cell? ⟨w.heap.size, 5, none⟩ = some (.int .i64 t) := (mbBox HA6.out).cell rfl; have r6 : w6.cell? ⟨w.heap.size, 6, none⟩ = some (.string l) := (mbBox HA6.out).cell rfl; have r7 : w6.cell? ⟨w.heap.size, 7, none⟩ = some (.slice A n c) := (mbBox HA6.out).cell rfl; refine Lib.wpList_append_run _ rfl _ _ 25 25 rfl _ _ rfl rfl _ _ hrun ?_; clear hrun hown hgrow)
          | (go_at_call 47; (with_reducible refine (CSP2.out _).mono ?_); rintro e w7 ⟨rfl, j1, rfl⟩; obtain ⟨W7, hW7⟩ : ∃ W7, W7 = w6.drewN j1 := ⟨_, rfl⟩; rw [← hW7]; have HA7 := Lib.hid (show Below (w.heap.size + 1) (w.alloc (.cells #[.string p, .int .i64 k, .int .i64 m, .int .i64 u, .int .i64 g, .int .i64 t, .string l, .slice A n c] 50)) W7 by rw [hW7]; have h := below_drewN HA6.out j1; simpa using h); have HO7 := Lib.hid (show OBn W7 (w.heap.size + 1) 5 (v6) (512 + FR.length) (HX ++ FR) by rw [hW7]; exact HO6.out); have s0 : W7.cell? ⟨w.heap.size, 0, none⟩ = some (.string p) := (mbBox1 HA7.out).cell rfl; have s1 : W7.cell? ⟨w.heap.size, 1, none⟩ = some (.int .i64 k) := (mbBox1 HA7.out).cell rfl; have s2 : W7.cell? ⟨w.heap.size, 2, none⟩ = some (.int .i64 m) := (mbBox1 HA7.out).cell rfl; have s3 : W7.cell? ⟨w.heap.size, 3, none⟩ = some (.int .i64 u) := (mbBox1 HA7.out).cell rfl; have s4 : W7.cell? ⟨w.heap.size, 4, none⟩ = some (.int .i64 g) := (mbBox1 HA7.out).cell rfl; have s5 : W7.cell? ⟨w.heap.size, 5, none⟩ = some (.int .i64 t) := (mbBox1 HA7.out).cell rfl; have s6 : W7.cell? ⟨w.heap.size, 6, none⟩ = some (.string l) := (mbBox1 HA7.out).cell rfl; have s7 : W7.cell? ⟨w.heap.size, 7, none⟩ = some (.slice A n c) := (mbBox1 HA7.out).cell rfl; clear hW7))
        have alls : ∀ W, Below W7.heap.size W7 W → W.cell? ⟨w.heap.size, 0, none⟩ = some (.string p) ∧ W.cell? ⟨w.heap.size, 1, none⟩ = some (.int .i64 k) ∧ W.cell? ⟨w.heap.size, 2, none⟩ = some (.int .i64 m) ∧ W.cell? ⟨w.heap.size, 3, none⟩ = some (.int .i64 u) ∧ W.cell? ⟨w.heap.size, 4, none⟩ = some (.int .i64 g) ∧ W.cell? ⟨w.heap.size, 5, none⟩ = some (.int .i64 t) ∧ W.cell? ⟨w.heap.size, 6, none⟩ = some (.string l) ∧ W.cell? ⟨w.heap.size, 7, none⟩ = some (.slice A n c) := fun W hW => by
          have b := mbBox1 (HA7.out.trans (hW.mono (show w.heap.size + 1 ≤ _ by have := HA7.out.size; simpa using this)))
          exact ⟨b.cell rfl, b.cell rfl, b.cell rfl, b.cell rfl, b.cell rfl, b.cell rfl, b.cell rfl, b.cell rfl⟩
        have hacc : Below W7.heap.size W7 W7.drew := below_drewN (Below.refl _ _) 1
        have ALLS := Lib.hid alls
        obtain ⟨y0, y1, y2, y3, y4, y5, y6, y7⟩ := ALLS.out _ hacc
        go_region_held3 (fun w' => w'.cell? ⟨w.heap.size, 0, none⟩ = some (.string p) ∧ w'.cell? ⟨w.heap.size, 1, none⟩ = some (.int .i64 k) ∧ w'.cell? ⟨w.heap.size, 2, none⟩ = some (.int .i64 m) ∧ w'.cell? ⟨w.heap.size, 3, none⟩ = some (.int .i64 u) ∧ w'.cell? ⟨w.heap.size, 4, none⟩ = some (.int .i64 g) ∧ w'.cell? ⟨w.heap.size, 5, none⟩ = some (.int .i64 t) ∧ w'.cell? ⟨w.heap.size, 6, none⟩ = some (.string l) ∧ w'.cell? ⟨w.heap.size, 7, none⟩ = some (.slice A n c)) (first | go_keep | (exact ALLS.out _ hacc)) (first
          | (go_at_call 48; (with_reducible refine (CTY.out _).mono ?_); rintro e w8 ⟨rfl, hb8⟩; replace hacc := bthen hacc hb8; have z8 := Lib.hid hacc)
          | (go_at_call 45; (with_reducible refine (COW2.out _).mono ?_); rintro e w9 ⟨v9, rfl, ho9, hb9⟩; have HO9 := Lib.hid (show OBn w9 (w.heap.size + 1) 5 v9 512 HO by have h := OB.obn (OB.base ho9 (show w.heap.size + 1 ≤ _ by have := HA7.out.size; have := z8.out.size; simp at *; omega)); rwa [HD5.out] at h); replace hacc := bthen hacc hb9))
        all_goals
          have SZ7 := Lib.hid (show w.heap.size + 1 ≤ W7.heap.size by have := HA7.out.size; simpa using this)
          have HA9 := Lib.hid (HA7.out.trans (hacc.mono SZ7.out))
          have SZ9 := Lib.hid (show w.heap.size + 1 ≤ w9.heap.size by have := hacc.size; have := SZ7.out; omega)
          have HOV := Lib.hid (OBn.later HO7.out hacc)
          have LTV := Lib.hid (fun k hk => (World.ownsRow.lt HOV.out k hk).2)
          obtain ⟨A9, c9, rfl, hr9, _, _⟩ := OBn.slice HO9.out
          have runs : ∀ W, Below w9.heap.size w9 W → ∃ v' W', (Builtin.append_ #[25, 25] 25 #[(v6 : Value), .slice A9 512 c9]).run Tryz.prog W = .ok v' W' ∧ OBn W' (w.heap.size + 1) 5 v' ((512 + FR.length) + 512) ((HX ++ FR) ++ HO) ∧ W.grownBy W' ((v6 : Value)).ownBlock ∧ Below (w.heap.size + 1) (w.alloc (.cells #[.string p, .int .i64 k, .int .i64 m, .int .i64 u, .int .i64 g, .int .i64 t, .string l, .slice A n c] 50)) W' := fun W hW => by
            obtain ⟨v', W', e1, e2, e3⟩ := run_append_rb (P := Tryz.prog) (w.heap.size + 1) W.heap.size 25 25 5 i0 Tryz.underlying25 hi hz0 hz1 hz2 (v6 : Value) (512 + FR.length) (HX ++ FR) (OBn.later HOV.out hW) A9 512 c9 HO ((hr9.below hW).more hW.size) (by have := HFF.out; have := RS.out; omega) (by have := hW.size; have := SZ9.out; omega)
            exact ⟨v', W', e1, e2, e3, below_app6 (HA9.out.trans (hW.mono SZ9.out)) (by simp) (by have h := OBn.later HOV.out hW; unfold OBn at h; simpa using h) e3⟩
          have alls9 : ∀ W, Below (w.heap.size + 1) (w.alloc (.cells #[.string p, .int .i64 k, .int .i64 m, .int .i64 u, .int .i64 g, .int .i64 t, .string l, .slice A n c] 50)) W → W.cell? ⟨w.heap.size, 0, none⟩ = some (.string p) ∧ W.cell? ⟨w.heap.size, 1, none⟩ = some (.int .i64 k) ∧ W.cell? ⟨w.heap.size, 2, none⟩ = some (.int .i64 m) ∧ W.cell? ⟨w.heap.size, 3, none⟩ = some (.int .i64 u) ∧ W.cell? ⟨w.heap.size, 4, none⟩ = some (.int .i64 g) ∧ W.cell? ⟨w.heap.size, 5, none⟩ = some (.int .i64 t) ∧ W.cell? ⟨w.heap.size, 6, none⟩ = some (.string l) ∧ W.cell? ⟨w.heap.size, 7, none⟩ = some (.slice A n c) := fun W hW => by
            have b := mbBox1 hW
            exact ⟨b.cell rfl, b.cell rfl, b.cell rfl, b.cell rfl, b.cell rfl, b.cell rfl, b.cell rfl, b.cell rfl⟩
          have hW9 : Below w9.heap.size w9 w9.drew := below_drewN (Below.refl _ _) 1
          have hnow : Below (w.heap.size + 1) (w.alloc (.cells #[.string p, .int .i64 k, .int .i64 m, .int .i64 u, .int .i64 g, .int .i64 t, .string l, .slice A n c] 50)) w9.drew := HA9.out.trans (hW9.mono SZ9.out)
          have RUNS := Lib.hid runs; have ALLS9 := Lib.hid alls9
          clear runs alls9 hr9 hacc y0 y1 y2 y3 y4 y5 y6 y7 ALLS z8
          obtain ⟨y0, y1, y2, y3, y4, y5, y6, y7⟩ := ALLS9.out _ hnow
          have hsz : w9.heap.size ≤ w9.drew.heap.size := Nat.le_refl _
          go_upto_region 14 with (fail)
          go_region_law (first
            | (obtain ⟨v78, w78, hrun, hown, hgrow, hnew⟩ := RUNS.out _ hW9; refine step_append_run8 rfl (.tmp 76) (.tmp 77) 25 25 rfl _ _ (by simp [Act.eval, Act.put]) (by simp [Act.eval, Act.put]) hrun ?_; (first | (replace HO10 := Lib.hid (OBn.kept HO10.out (fun k hk => hgrow.block k (World.ownsRow.lt HO10.out k hk).2 (fun e => by have h1 := LTV.out k e.symm; have h2 := (World.ownsRow.lt HO10.out k hk).1; omega)))) | skip); have HO78 := Lib.hid hown; replace hnow := hnew; replace hsz := Nat.le_trans hsz hgrow.size; obtain ⟨x0, x1, x2, x3, x4, x5, x6, x7⟩ := ALLS9.out _ hnow; clear hrun hown hgrow hnew)
            | (go_simp; go_at_call 46; (with_reducible refine (CFX.out _ (mbLow hnow)).mono ?_); rintro e w10 ⟨v10, rfl, ho10, hb10⟩; (first | (replace HO78 := Lib.hid (OBn.later HO78.out hb10)) | (replace hW9 := bthen hW9 hb10)); have HO10 := Lib.hid (show OBn w10 w9.heap.size 5 v10 FX.length FX from OB.obn (OB.base ho10 hsz)); replace hsz := Nat.le_trans hsz hb10.size; replace hnow := hnow.trans (hb10.mono (by have := hnow.size; simpa using this)); obtain ⟨A10, c10, rfl, _, _, _⟩ := OBn.slice HO10.out; clear ho10 hb10)
            | (obtain ⟨A11, c11, e11, hr11, _, _⟩ := OBn.slice HO10.out; cases e11; obtain ⟨v12, w12, hrun, hown, hgrow⟩ := run_append_rb (P := Tryz.prog) (w.heap.size + 1) _ 25 25 5 i0 Tryz.underlying25 hi hz0 hz1 hz2 v78 _ _ HO78.out A10 FX.length c10 FX hr11 (by have := HFF.out; have := RS.out; have := HFX.out; omega) (by have := hnow.size; simpa using this); refine step_append_run8 rfl (.tmp 78) (.tmp 81) 25 25 rfl _ _ (by simp [Act.eval]) (by simp [Act.eval]) hrun ?_; have HO12 := Lib.hid hown; have HB12 := Lib.hid (below_app6 hnow (by simp) (by have h := HO78.out; unfold OBn at h; simpa using h) hgrow); clear hrun hown hgrow))
          all_goals
            go_wp2
            go_ret2
            refine ⟨v12, by simp [Act.put], ?_, mbLow HB12.out⟩
            have h := OB.base HO12.out.ob (show w.heap.size ≤ w.heap.size + 1 by omega)
            simpa using h
  · have hE1 : Mb.may p l k m u g t xs.length ≠ 0 := by rw [hxl]; exact hE
    rw [Mb.lay_bad hE1]
    generalize Mb.may p l k m u g t n = E at *
    have CM := Lib.hid cm
    have hE' : (E == 0) = false := by simp [hE]
    have hE2 : (E != 0) = true := by simp [hE]
    clear hE hE1 cm
    go_enter Tryz.func30, Tryz.ntmps30
    go_wp2_with (go_at_call 42; (with_reducible refine (CM.out _).mono ?_); rintro e w1 ⟨rfl, hb1⟩)
    go_ret2
    exact ⟨_, rfl, OB.nil _ _ _, mb_below hb1⟩
end Go.Proofs.YtjofdgjcbjdhbaaGreatDoor
