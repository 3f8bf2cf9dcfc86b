/- THE WALK OF THE LAW FrameFinds. gen_l19d.py -/
import Derived.Test.YtmpmldoapfddeaaP19n
import Derived.Test.YtmpmldoapfddeaaS19
import Derived.Test.YtmpmldoapfddeaaR19b
namespace Go.Proofs.Ytmpmldoapfddeaa
open Go Go.RowKit
set_option maxHeartbeats 3000000
set_option maxRecDepth 100000
set_option linter.unusedVariables false
attribute [-go_sem] loadCellsFrom storeCells Instr.build
attribute [local go_sem] storeCells_one
theorem xor19 {y b : Int} (h0 : 0 ≤ y ∧ y ≤ 255) (h1 : 0 ≤ b ∧ b ≤ 255) : bits .xor .u8 y b = ((y.toNat ^^^ b.toNat : Nat) : Int) := u8_xor y b h0.1 (by omega) h1.1 (by omega)
theorem Fm.body_len19 {f : Fm.Fr} (hf : f.fit) (hm : f.m ≤ 20) (hn : f.n ≤ 600) : 28 ≤ (Fm.body f).length ∧ (Fm.body f).length ≤ 700 := by
  have h1 := hf.ln.1
  have h2 := hf.ln.2
  have h3 := hf.n
  have h4 := hf.m
  have h : (Fm.body f).length = (Fm.head f).length + (Fm.flds f).length := List.length_append
  have hh : (Fm.head f).length = 28 := by simp [Fm.head, h1, Fm.num_len]
  have hfl : (Fm.flds f).length ≤ 650 := by
    unfold Fm.flds
    (repeat' split) <;> simp only [List.length_append, Fm.num_len, h2, List.length_cons, List.length_nil, Fm.rgs_len] <;> omega
  omega
theorem FrOk.byt {W : World} {f : Fm.Fr} (h : FrOk W f) (hm : Fm.may f = 0) : Byt (Fm.body f) := by
  have hz := Fm.may_zero hm
  exact Fm.body_byt (by omega) h.tok h.sum h.xs (fun e => by have := hz.2.2.2 e; omega) (by omega)
theorem Fm.far_false {f : Fm.Fr} (h : Fm.far f = false) : f.n ≤ 600 ∧ f.m ≤ 20 := by
  unfold Fm.far at h
  simp at h
  exact h
/-- A frame with its ranges elsewhere. -/
theorem Fm.fit_moved {f : Fm.Fr} (h : f.fit) (A : Option Addr) (c : Nat) : Fm.Fr.fit { f with RA := A, rc := c } := ⟨h.ln, h.s, h.r, h.off, h.tot, h.rs, h.n, h.m⟩
theorem FrOk.below {W W' : World} {f : Fm.Fr} (h : FrOk W f) (hb : Below W.heap.size W W') : FrOk W' f := ⟨h.fit, h.k, h.tok, h.sum, (h.rb.below hb).more hb.size, h.xs, h.nc, h.cm, (h.rg.below hb).more hb.size⟩
theorem framefinds_walk (f : Fm.Fr) (at_ b0 b1 b2 b3 : Int) (w : World) (hf : FrOk w f) (t0 : 0 ≤ at_) (t1 : at_ ≤ 65535) (p0 : 0 ≤ b0 ∧ b0 ≤ 255) (p1 : 0 ≤ b1 ∧ b1 ≤ 255) (p2 : 0 ≤ b2 ∧ b2 ≤ 255) (p3 : 0 ≤ b3 ∧ b3 ≤ 255) :
    Calls Try.prog 6 #[.agg (Fm.FC f), .int .u16 at_, .agg #[.int .u8 b0, .int .u8 b1, .int .u8 b2, .int .u8 b3]] w fun e w' => e = .returned (.bool true) ∧ Below w.heap.size w w' := by
  have al := Lib.hid alive_any19
  have LF := Lib.hid hf.fit.ln
  have hb1 := Below.alloc (Below.refl w.heap.size w) (Nat.le_refl _) (.cells (Fm.FC f) 31)
  have hb2 := hb1.alloc (by simp) (.cells #[.int .u8 b0, .int .u8 b1, .int .u8 b2, .int .u8 b3] 61)
  have bF : BX ((w.alloc (.cells (Fm.FC f) 31)).alloc (.cells #[.int .u8 b0, .int .u8 b1, .int .u8 b2, .int .u8 b3] 61)) w.heap.size 31 (Fm.FC f) := (BX.new w 31 (Fm.FC f)).alloc _
  have bB : BX ((w.alloc (.cells (Fm.FC f) 31)).alloc (.cells #[.int .u8 b0, .int .u8 b1, .int .u8 b2, .int .u8 b3] 61)) (w.heap.size + 1) 61 #[.int .u8 b0, .int .u8 b1, .int .u8 b2, .int .u8 b3] := by
    have h := BX.new (w.alloc (.cells (Fm.FC f) 31)) 61 #[.int .u8 b0, .int .u8 b1, .int .u8 b2, .int .u8 b3]
    rw [World.size_alloc] at h
    exact h
  obtain ⟨W, hW⟩ : ∃ W, (w.alloc (.cells (Fm.FC f) 31)).alloc (.cells #[.int .u8 b0, .int .u8 b1, .int .u8 b2, .int .u8 b3] 61) = W := ⟨_, rfl⟩
  rw [hW] at hb2 bF bB
  have HB := Lib.hid hb2
  have HBF := Lib.hid bF
  have HBB := Lib.hid bB
  have OK := Lib.hid (hf.below hb2)
  have FK := Lib.hid (fun W2 (h : Below W.heap.size W W2) => And.intro (load_any19 LF.out (bF.later h)) (run_cells_part (P := Try.prog) (bB.later h) 0 #[.int .u8 b0, .int .u8 b1, .int .u8 b2, .int .u8 b3] 4 rfl (fun j _ => by rw [Nat.zero_add])))
  have la := load_any19 LF.out bF
  have FA := Lib.hid (far_any19 f W LF.out)
  clear hb1 hb2 bF bB
  by_cases hfar : Fm.far f = true
  · rw [hfar] at FA
    go_enter Try.func6, Try.ntmps6
    go_wp2_with (first
      | (go_at_call 7; (with_reducible refine FA.out.mono ?_); rintro e w1 ⟨rfl, h1⟩; have H1 := Lib.hid (bthen' HB.out h1); clear h1)
      | (go_at_call 8; (with_reducible refine (al.out _).mono ?_); rintro e w2 ⟨rfl, h2⟩; have H2 := Lib.hid (bthen' H1.out h2); clear h2))
    go_ret
    exact ⟨rfl, H2.out⟩
  have hfar' : Fm.far f = false := by simpa using hfar
  rw [hfar'] at FA
  obtain ⟨hn6, hm2⟩ := Fm.far_false hfar'
  have eb : ∀ W : World, (Op.equalIn 10000 61 (.agg #[.int .u8 b0, .int .u8 b1, .int .u8 b2, .int .u8 b3]) (.agg #[.int .u8 0, .int .u8 0, .int .u8 0, .int .u8 0])).run Try.prog W = .ok (decide ([b0, b1, b2, b3] = [0, 0, 0, 0])) W := fun W => eq_bytes (t := 61) (n := 4) (by kernel_rfl) [b0, b1, b2, b3] [0, 0, 0, 0] rfl rfl W
  have bz : ∀ W : World, (Instr.build 61 #[]).run Try.prog W = .ok (.agg #[.int .u8 0, .int .u8 0, .int .u8 0, .int .u8 0]) W := fun W => run_build (P := Try.prog) W 61 #[] _ (by kernel_rfl)
  clear hfar hfar'
  by_cases hzero : [b0, b1, b2, b3] = [0, 0, 0, 0]
  · rw [decide_eq_true hzero] at eb
    have HZ := Lib.hid hzero
    clear hzero
    go_enter Try.func6, Try.ntmps6
    go_wp2_with (first
      | (go_at_call 7; (with_reducible refine FA.out.mono ?_); rintro e w1 ⟨rfl, h1⟩; obtain ⟨lf1, lb1⟩ := FK.out _ h1; have H1 := Lib.hid (bthen' HB.out h1); clear h1)
      | (go_at_call 8; (with_reducible refine (al.out _).mono ?_); rintro e w2 ⟨rfl, h2⟩; have H2 := Lib.hid (bthen' H1.out h2); clear h2))
    go_ret
    exact ⟨rfl, H2.out⟩
  rw [decide_eq_false hzero] at eb
  have HZ := Lib.hid hzero
  clear hzero
  have TH := Lib.hid (fun W1 (h : Below W.heap.size W W1) => theirs_any19 f W1 LF.out (OK.out.below h).rg (by omega))
  obtain ⟨Z, hZ⟩ : ∃ Z, Fm.may f = Z := ⟨_, rfl⟩
  have LY := Lib.hid (fun W1 A c (h : Below W.heap.size W W1) (hr : RG W1 W1.heap.size A f.m f.rs) => lay_any19 { f with RA := A, rc := c } W1 (Fm.fit_moved OK.out.fit A c) hr (OK.out.below h).rb (by show f.m ≤ 10000; omega) (by show f.n ≤ 200000; omega) (fun e => OK.out.byt e))
  have EM := Lib.hid (show ∀ A c, Fm.may { f with RA := A, rc := c } = Z from fun A c => by rw [← hZ]; rfl)
  have hb0 := Below.refl W.heap.size W
  have HB0 := Lib.hid hb0
  clear hb0
  by_cases hz : Z ≠ 0
  · have gz : (Z != 0) = true := by simpa using hz
    clear hZ
    go_enter Try.func6, Try.ntmps6
    go_wp2_with (first
      | (go_at_call 7; (with_reducible refine FA.out.mono ?_); rintro e w1 ⟨rfl, h1⟩; obtain ⟨lf1, lb1⟩ := FK.out _ h1; have H1 := Lib.hid h1; clear h1)
      | (go_at_call 10; (with_reducible refine (TH.out _ H1.out).mono ?_); rintro e w2 ⟨A2, c2, rfl, hr2, _, _, h2⟩; have HR2 := Lib.hid hr2; have H2 := Lib.hid (bthen' H1.out h2); clear hr2 h2)
      | (go_at_call 9; (with_reducible refine (LY.out _ A2 c2 H2.out HR2.out).mono ?_); rintro e w3 ⟨v3, rfl, _, hv3, h3⟩; rw [EM.out]; rw [hv3 (by rw [EM.out]; exact hz)]; have H3 := Lib.hid (bthen' HB.out (bthen' H2.out h3)); clear hv3 h3)
      | (go_at_call 8; (with_reducible refine (al.out _).mono ?_); rintro e w4 ⟨rfl, h4⟩; have H4 := Lib.hid (bthen' H3.out h4); clear h4))
    go_ret
    exact ⟨rfl, H4.out⟩
  have hz0 : Z = 0 := by omega
  subst hz0
  obtain ⟨xs, hxs⟩ : ∃ xs, Fm.body f = xs := ⟨_, rfl⟩
  have hy : Byt xs := by rw [← hxs]; exact OK.out.byt hZ
  have hxl := Fm.body_len19 OK.out.fit hm2 hn6
  rw [hxs] at hxl
  have EB := Lib.hid (show ∀ A c, Fm.body { f with RA := A, rc := c } = xs from fun A c => hxs)
  obtain ⟨n, hn⟩ : ∃ n, xs.length = n := ⟨_, rfl⟩
  rw [hn] at hxl
  have hsb := Ck.sealed_byt hy
  have hsl := Ck.sealed_len xs
  have hBs : Byt [b0, b1, b2, b3] := Byt.cons p0 (Byt.cons p1 (Byt.cons p2 (Byt.cons p3 Byt.nil)))
  have te := fun k (hk : k + 4 ≤ xs.length + 4) => Ck.turned_err (xs := xs) (bs := [b0, b1, b2, b3]) (k := k) hy hBs hk
  have ht : Ck.tn [b0, b1, b2, b3] 4 = true := by
    rcases hq : Ck.tn [b0, b1, b2, b3] 4 with _ | _
    · exfalso
      refine HZ.out ?_
      rw [Ck.tn_iff] at hq
      have q0 := hq 0 (by omega)
      have q1 := hq 1 (by omega)
      have q2 := hq 2 (by omega)
      have q3 := hq 3 (by omega)
      simp at q0 q1 q2 q3
      rw [q0, q1, q2, q3]
    · rfl
  rw [ht] at te
  rw [hn] at hsl te
  obtain ⟨a, rfl⟩ : ∃ z : Nat, at_ = (z : Int) := ⟨at_.toNat, by omega⟩
  obtain ⟨p, hp⟩ : ∃ p, n + 1 = p := ⟨_, rfl⟩
  obtain ⟨m, hm⟩ : ∃ m, n + 4 = m := ⟨_, rfl⟩
  obtain ⟨k, hk⟩ : ∃ k, a % p = k := ⟨_, rfl⟩
  have hkp : k < p := by rw [← hk]; exact Nat.mod_lt _ (by omega)
  have tm : (a : Int).tmod (p : Int) = (k : Int) := by rw [← hk]; exact Int.tmod_eq_emod_of_nonneg (by omega)
  have s2 : IntKind.i64.wrap ((m : Int) - 3) = (p : Int) := by rw [IntWalk.i64_in _ (by omega)]; omega
  have s3 : IntKind.i64.wrap (a : Int) = (a : Int) := IntWalk.i64_in _ (by omega)
  have s4 : IntKind.i64.wrap (k : Int) = (k : Int) := IntWalk.i64_in _ (by omega)
  have gp : ((p : Int) == 0) = false := by simp; omega
  have gp2 : ¬ (p : Int) = 0 := by omega
  have gm32 : ¬ (m : Int) < 32 := by omega
  have TE := Lib.hid (te k (by omega))
  have HSB := Lib.hid hsb
  have HBS := Lib.hid hBs
  rw [hm] at hsl
  have HSL := Lib.hid hsl
  have HNM := Lib.hid (show xs.length + 4 = m by omega)
  have hkm : k + 3 < m := by omega
  have hm1 : m ≤ 1004 := by omega
  generalize hsx : Ck.sealed xs = sx at *
  have HSX := Lib.hid hsx
  have PX := Lib.hid (fun (W : World) B d ys (hr : RB W W.heap.size B m ys) (hy : Byt ys) (h1 : m ≤ d) (h2 : d ≤ maxLen) => parse_any19 B m d ys W hr hy h1 h2 (by omega))
  have PE := Lib.hid (show ∀ ys, Ck.err ys = 9 → Fm.parse ys = (Fm.nul, 9) from fun ys e => by unfold Fm.parse; rw [e, if_pos (by decide)])
  obtain ⟨nu, NU0⟩ : ∃ g, Hid (Fm.nul = g) := ⟨_, rfl⟩
  have NL := Lib.hid (show nu.ln by rw [← NU0.out]; exact Fm.nul_ln)
  have NDD := Lib.hid (show ∀ W, DD W nu by rw [← NU0.out]; exact fun W => (da_none W 0 _ _ _ _).dd)
  have NER := Lib.hid (show Fm.er nu = nu ∧ nu.n = 0 ∧ nu.m = 0 by rw [← NU0.out]; exact ⟨rfl, rfl, rfl⟩)
  have bn : ∀ W, (Instr.build 42 #[]).run Try.prog W = .ok (.agg (Fm.FC nu)) W := fun W => by rw [← NU0.out]; exact run_build (P := Try.prog) W 42 #[] _ built_nulp
  rw [NU0.out] at PE
  have SM := Lib.hid (fun W g (lg : g.ln) (hg : Fm.er g = nu) (dd : DD W g) => same_any19 g nu W lg NL.out dd.2 (NDD.out W).2 dd.1.1 (NDD.out W).1.1 (by have h := dd.2.1.1; have h2 : g.rs = nu.rs := congrArg (·.rs) hg; rw [h2, (NDD.out W).2.1.1, NER.out.2.2] at h; omega) (by have h := dd.1.1.1; have h2 : g.xs = nu.xs := congrArg (·.xs) hg; rw [h2, (NDD.out W).1.1.1, NER.out.2.1] at h; omega) (by rw [NER.out.2.2]; omega) (by rw [NER.out.2.1]; omega))
  clear hy te hk hsx hsb hBs hsl hxl hn hZ hxs hp hm hz
  go_enter Try.func6, Try.ntmps6
  go_wp2_with (first
    | (go_at_call 7; (with_reducible refine FA.out.mono ?_); rintro e w1 ⟨rfl, h1⟩; obtain ⟨lf1, lb1⟩ := FK.out _ h1; have H1 := Lib.hid h1; clear h1)
    | (go_at_call 10; (with_reducible refine (TH.out _ H1.out).mono ?_); rintro e w2 ⟨A2, c2, rfl, hr2, _, _, h2⟩; have HR2 := Lib.hid hr2; have H2 := Lib.hid (bthen' H1.out h2); clear hr2 h2)
    | (go_at_call 9; (with_reducible refine (LY.out _ A2 c2 H2.out HR2.out).mono ?_); rintro e w3 ⟨v3, rfl, ho3, _, h3⟩; rw [EM.out] at ho3 ⊢; rw [EB.out, HSX.out, HNM.out] at ho3; have H3 := Lib.hid (bthen' H2.out h3); obtain ⟨lf3, lb3⟩ := FK.out _ H3.out; have HB3 := Lib.hid (bthen' HB.out H3.out); obtain ⟨g, c1, cur, rfl, hg1, hg2, _, hc1, hm2, _, _⟩ := (ho3 rfl).shape (by omega); have HO3 := Lib.hid (OBn.low (ho3 rfl) (bthen' HB.out H2.out).size); have hgw : w.heap.size ≤ g := Nat.le_trans (bthen' HB.out H2.out).size hg1; clear h3 ho3 hg1 hg2))
  go_loopw [47] (fun i wr => ∃ j : Nat, j ≤ 4 ∧ i = .int .i64 j ∧ OBn wr w.heap.size 5 (.slice (some ⟨g, 0, none⟩) m c1) m (Ck.tw sx k [b0, b1, b2, b3] j) ∧ Below w.heap.size w wr) (fun i _ => 4 - (intOf i).toNat)
  case atStart => exact ⟨0, by omega, rfl, HO3.out, HB3.out⟩
  case round =>
    obtain ⟨j, hj, rfl, ho, hb⟩ := hrel
    have HO := Lib.hid ho
    have HB4 := Lib.hid hb
    clear ho hb lf1 lb1 lf3 lb3 la
    rcases (by omega : j = 0 ∨ j = 1 ∨ j = 2 ∨ j = 3 ∨ j = 4) with rfl | rfl | rfl | rfl | rfl
    · rw [show ((0 : Nat) : Int) = 0 from rfl]
      have ix : ∀ W : World, (Instr.index 61 (.agg #[.int .u8 b0, .int .u8 b1, .int .u8 b2, .int .u8 b3]) (.int .i64 0)).run Try.prog W = .ok (.int .u8 b0) W := fun W => by kernel_rfl
      have htm : k < m := by omega
      have hcl := HO.out.cell k htm
      have hf := HO.out.free k
      have hot := Ck.tw_other sx k [b0, b1, b2, b3] 0 k (by omega)
      rw [hot] at hcl
      have hx := xor19 (HSB.out k) p0
      have hst := HO.out.stored k (((sx.getD k 0).toNat ^^^ b0.toNat : Nat) : Int)
      have htw : Ck.tw sx k [b0, b1, b2, b3] (0 + 1) = (Ck.tw sx k [b0, b1, b2, b3] 0).set k (((sx.getD k 0).toNat ^^^ b0.toNat : Nat) : Int) := by rfl
      rw [← htw] at hst
      have HST := Lib.hid hst
      have HBL := Lib.hid (show Below w.heap.size w (wr.setCell ⟨g, k, none⟩ (.int .u8 (((sx.getD k 0).toNat ^^^ b0.toNat : Nat) : Int))) from HB4.out.setCell hgw _)
      generalize (((sx.getD k 0).toNat ^^^ b0.toNat : Nat) : Int) = z at *
      generalize sx.getD k 0 = y at *
      clear hot htw hst
      go_wp2
      go_roundw
      case rel => exact ⟨0 + 1, by omega, by go_num, HST.out, HBL.out⟩
      case measure => simp [intOf]
    · rw [show ((1 : Nat) : Int) = 1 from rfl]
      obtain ⟨t, ht⟩ : ∃ t, k + 1 = t := ⟨_, rfl⟩
      have sI : IntKind.i64.wrap ((k : Int) + 1) = (t : Int) := by rw [IntWalk.i64_in _ (by omega)]; omega
      have ix : ∀ W : World, (Instr.index 61 (.agg #[.int .u8 b0, .int .u8 b1, .int .u8 b2, .int .u8 b3]) (.int .i64 1)).run Try.prog W = .ok (.int .u8 b1) W := fun W => by kernel_rfl
      have htm : t < m := by omega
      have hcl := HO.out.cell t htm
      have hf := HO.out.free t
      have hot := Ck.tw_other sx k [b0, b1, b2, b3] 1 t (by omega)
      rw [hot] at hcl
      have hx := xor19 (HSB.out t) p1
      have hst := HO.out.stored t (((sx.getD t 0).toNat ^^^ b1.toNat : Nat) : Int)
      have htw : Ck.tw sx k [b0, b1, b2, b3] (1 + 1) = (Ck.tw sx k [b0, b1, b2, b3] 1).set t (((sx.getD t 0).toNat ^^^ b1.toNat : Nat) : Int) := by rw [← ht]; rfl
      rw [← htw] at hst
      have HST := Lib.hid hst
      have HBL := Lib.hid (show Below w.heap.size w (wr.setCell ⟨g, t, none⟩ (.int .u8 (((sx.getD t 0).toNat ^^^ b1.toNat : Nat) : Int))) from HB4.out.setCell hgw _)
      generalize (((sx.getD t 0).toNat ^^^ b1.toNat : Nat) : Int) = z at *
      generalize sx.getD t 0 = y at *
      clear hot htw hst ht
      go_wp2
      go_roundw
      case rel => exact ⟨1 + 1, by omega, by go_num, HST.out, HBL.out⟩
      case measure => simp [intOf]
    · rw [show ((2 : Nat) : Int) = 2 from rfl]
      obtain ⟨t, ht⟩ : ∃ t, k + 2 = t := ⟨_, rfl⟩
      have sI : IntKind.i64.wrap ((k : Int) + 2) = (t : Int) := by rw [IntWalk.i64_in _ (by omega)]; omega
      have ix : ∀ W : World, (Instr.index 61 (.agg #[.int .u8 b0, .int .u8 b1, .int .u8 b2, .int .u8 b3]) (.int .i64 2)).run Try.prog W = .ok (.int .u8 b2) W := fun W => by kernel_rfl
      have htm : t < m := by omega
      have hcl := HO.out.cell t htm
      have hf := HO.out.free t
      have hot := Ck.tw_other sx k [b0, b1, b2, b3] 2 t (by omega)
      rw [hot] at hcl
      have hx := xor19 (HSB.out t) p2
      have hst := HO.out.stored t (((sx.getD t 0).toNat ^^^ b2.toNat : Nat) : Int)
      have htw : Ck.tw sx k [b0, b1, b2, b3] (2 + 1) = (Ck.tw sx k [b0, b1, b2, b3] 2).set t (((sx.getD t 0).toNat ^^^ b2.toNat : Nat) : Int) := by rw [← ht]; rfl
      rw [← htw] at hst
      have HST := Lib.hid hst
      have HBL := Lib.hid (show Below w.heap.size w (wr.setCell ⟨g, t, none⟩ (.int .u8 (((sx.getD t 0).toNat ^^^ b2.toNat : Nat) : Int))) from HB4.out.setCell hgw _)
      generalize (((sx.getD t 0).toNat ^^^ b2.toNat : Nat) : Int) = z at *
      generalize sx.getD t 0 = y at *
      clear hot htw hst ht
      go_wp2
      go_roundw
      case rel => exact ⟨2 + 1, by omega, by go_num, HST.out, HBL.out⟩
      case measure => simp [intOf]
    · rw [show ((3 : Nat) : Int) = 3 from rfl]
      obtain ⟨t, ht⟩ : ∃ t, k + 3 = t := ⟨_, rfl⟩
      have sI : IntKind.i64.wrap ((k : Int) + 3) = (t : Int) := by rw [IntWalk.i64_in _ (by omega)]; omega
      have ix : ∀ W : World, (Instr.index 61 (.agg #[.int .u8 b0, .int .u8 b1, .int .u8 b2, .int .u8 b3]) (.int .i64 3)).run Try.prog W = .ok (.int .u8 b3) W := fun W => by kernel_rfl
      have htm : t < m := by omega
      have hcl := HO.out.cell t htm
      have hf := HO.out.free t
      have hot := Ck.tw_other sx k [b0, b1, b2, b3] 3 t (by omega)
      rw [hot] at hcl
      have hx := xor19 (HSB.out t) p3
      have hst := HO.out.stored t (((sx.getD t 0).toNat ^^^ b3.toNat : Nat) : Int)
      have htw : Ck.tw sx k [b0, b1, b2, b3] (3 + 1) = (Ck.tw sx k [b0, b1, b2, b3] 3).set t (((sx.getD t 0).toNat ^^^ b3.toNat : Nat) : Int) := by rw [← ht]; rfl
      rw [← htw] at hst
      have HST := Lib.hid hst
      have HBL := Lib.hid (show Below w.heap.size w (wr.setCell ⟨g, t, none⟩ (.int .u8 (((sx.getD t 0).toNat ^^^ b3.toNat : Nat) : Int))) from HB4.out.setCell hgw _)
      generalize (((sx.getD t 0).toNat ^^^ b3.toNat : Nat) : Int) = z at *
      generalize sx.getD t 0 = y at *
      clear hot htw hst ht
      go_wp2
      go_roundw
      case rel => exact ⟨3 + 1, by omega, by go_num, HST.out, HBL.out⟩
      case measure => simp [intOf]
    · rw [show ((4 : Nat) : Int) = 4 from rfl]
      obtain ⟨A5, d5, e5, hr5, hd5, hm5⟩ := HO.out.slice
      cases e5
      have YB := Lib.hid (Ck.tw_byt (k := k) HSB.out HBS.out 4)
      have PA := Lib.hid (PX.out wr _ _ _ hr5 YB.out hd5 hm5)
      rw [PE.out _ TE.out] at PA
      clear hr5
      go_wp2_with (first
        | (go_at_call 19; (with_reducible refine PA.out.mono ?_); rintro e w6 ⟨g6, e6, rfl, he6, lg6, dd6, h6⟩; obtain ⟨he7, rfl⟩ := Prod.mk.inj he6; have HE6 := Lib.hid he7; have LG6 := Lib.hid lg6; have H6 := Lib.hid (bthen' HB4.out h6); have st6 := fun (cc : Array Value) (hcc : cc.size = 56) => run_storeCells_new (P := Try.prog) w6 42 cc (Fm.FC g6) (by rw [Fm.FC_size LG6.out]; kernel_rfl) (by rw [Fm.FC_size LG6.out]; exact hcc) (Fm.FC_one _); have szg := Fm.FC_size LG6.out; have hbf := Below.alloc (Below.refl w6.heap.size w6) (Nat.le_refl _) (.cells (Fm.FC g6) 42); have lg7 := load_any19 LG6.out (BX.new w6 42 (Fm.FC g6)); have H7 := Lib.hid (bthen' H6.out hbf); have DD7 := Lib.hid (dd6.later hbf); clear he6 he7 lg6 dd6 h6 hbf)
        | (go_at_call 13; (with_reducible refine (SM.out _ g6 LG6.out HE6.out DD7.out).mono ?_); rintro e w8 ⟨rfl, h8⟩; rw [Fm.same_er (HE6.out.trans NER.out.1.symm)]; have H8 := Lib.hid (bthen' H7.out h8); clear h8)
        | (go_at_call 8; (with_reducible refine (al.out _).mono ?_); rintro e w9 ⟨rfl, h9⟩; have H9 := Lib.hid (bthen' H8.out h9); clear h9))
      go_ret
      exact ⟨rfl, H9.out⟩
end Go.Proofs.Ytmpmldoapfddeaa
