/- THE LAW 'TreeMoved': a directory that was moved has the same list; one name more under it, another one. -/
import Derived.Test.YthgbncpiehcghaaGreatDoorG15o
import Derived.Test.YthgbncpiehcghaaGreatDoorGw2
import Derived.Test.YthgbncpiehcghaaGreatDoorM15g
import Derived.StillTailTactics
import Derived.Deep.RegionHeld3
namespace Go.Proofs.YthgbncpiehcghaaGreatDoor
set_option linter.unusedVariables false
open Go Go.RowKit Go.Maps
set_option maxRecDepth 100000
set_option maxHeartbeats 8000000
open Nt (Tr Nd WF Ps Path at_ cnt used txt Mm Dd)
abbrev dirz : Nd := ⟨4, 0, 0, 0, 0, ⟨#[]⟩, none, 0, 0, []⟩
theorem QL.wider {w : World} {B B' n : Nat} {A : Option Addr} {l : List Dd} (h : QL w B A n l) (hB : B ≤ B') : QL w B' A n l :=
  ⟨⟨h.1.1, fun hn => by
    obtain ⟨b, o, e, hlt, hc⟩ := h.1.2 hn
    exact ⟨b, o, e, Nat.lt_of_lt_of_le hlt hB, hc⟩⟩, fun y hy => (h.2 y hy).more hB⟩
section
variable {w0 w w' : World} {tb K : Nat} {T : Tr}
theorem at_clone3 (h : At w0 w tb T K) (hK : K ≤ 100000) :
    Calls Tryz.prog 40 #[.pointer (some ⟨tb, 0, none⟩)] w fun e w' => ∃ tb', e = .returned (.pointer (some ⟨tb', 0, none⟩)) ∧ At w w' tb' T K := by
  obtain ⟨F, ad, mb, hF, hR⟩ := h.rep
  refine (tclone_any h.wf hK hR).mono ?_
  rintro e w' ⟨tb', rfl, hl, ⟨ad', mb', hR'⟩, hb⟩
  refine ⟨tb', rfl, ⟨h.wf, hb, _, ad', mb', ?_, hR'⟩⟩
  rintro k (h1 | h1)
  · exact h1.elim
  · exact h1
theorem at_mkdirX (h : At w0 w tb T K) (hK : K ≤ 100000) (p : ByteArray) (hp : p.size ≤ 1000000) :
    Calls Tryz.prog 44 #[.pointer (some ⟨tb, 0, none⟩), .string p, .agg #[.int .i64 0, .int .i64 0, .int .i64 0, .int .i64 0]] w fun e w' => e = .returned (.int .i64 (T.mk' p dirz).2) ∧ At w0 w' tb (T.mk' p dirz).1 (K + 301) ∧ KeepX TreeObj w w' := by
  obtain ⟨F, ad, mb, hF, hR⟩ := h.rep
  refine (mkdir_any h.wf hK hR.min p hp 0 0 0 0).mono ?_
  intro e w' hdn
  have hx : KeepX TreeObj w w' := KeepX.ofKeep hdn.2.2 fun k hk2 => hR.min.sort hk2
  obtain ⟨rfl, ha⟩ := h.of_done (fun k hk => hF k (hR.fm hk)) (h.wf.mk' fun _ => ⟨.inr (.inr rfl), rfl, Nat.zero_le _, fun _ => rfl, fun _ => rfl⟩) hdn
  exact ⟨rfl, ha, hx⟩
theorem At.keptN (h : At w0 w tb T K) (hk : ∀ (k : Nat) (o : Obj), w.heap[k]? = some o → TreeObj o → w'.heap[k]? = some o) (hb : Below w0.heap.size w w') : At w0 w' tb T K := by
  obtain ⟨F, ad, mb, hF, hR⟩ := h.rep
  refine ⟨h.wf, h.low.trans hb, _, ad, mb, fun k hk => ⟨(hF k (hR.fm hk)).1, Nat.lt_of_lt_of_le (hF k (hR.fm hk)).2 hb.size⟩, hR.min.kept fun k hk2 hl => ?_⟩
  obtain ⟨o, h1, h2⟩ := hR.min.sort hk2
  rw [h1]
  exact hk k o h1 h2
theorem at_info (h : At w0 w tb T K) (hK : K ≤ 100000) (p : ByteArray) (hp : p.size ≤ 1000000) :
    Calls Tryz.prog 41 #[.pointer (some ⟨tb, 0, none⟩), .string p] w fun e w' => ∃ (kd a b c d lk : Int) (l : ByteArray) (A : Option Addr) (n k : Nat), e = .returned (.tuple #[.agg #[.int .i64 kd, .int .i64 a, .int .i64 b, .int .i64 c, .int .i64 d, .string l, .slice A n k, .int .i64 lk], .int .i64 (T.find p).2]) ∧ ((T.find p).2 = 0 → kd = (T.nd (T.find p).1).kind) ∧ Below w.heap.size w w' := by
  refine (at_get h hK p hp).mono ?_
  rintro e w' ⟨vd, rfl, ho, hb⟩
  by_cases h0 : (T.find p).2 = 0
  · obtain ⟨A, n, rfl⟩ := row_slice (ho h0)
    exact ⟨_, _, _, _, _, _, _, _, _, _, by unfold infoV; rw [if_pos h0], fun _ => rfl, hb⟩
  · exact ⟨_, _, _, _, _, _, _, _, _, _, by unfold infoV; rw [if_neg h0], fun h => absurd h h0, hb⟩
theorem at_ofO (h : At w0 w tb T K) (hK : K ≤ 90000) (hT : Nt.Mok T) (hX : Nt.Bok T) (p : ByteArray) (hp : p.size ≤ 100000) :
    Calls Tryz.prog 36 #[.pointer (some ⟨tb, 0, none⟩), .string p] w fun e w' => ∃ A c L, e = .returned (.tuple #[.slice A L.length c, .int .i64 (Nt.ofE T p)]) ∧ L.map erm = (Nt.ofL T p).map erm ∧ MRow w' A L.length L ∧ L.length ≤ c ∧ (c ≤ maxLen ∧ w'.ownsRow w.heap.size 102 8 (.slice A L.length c) L.length (rl MmC L)) ∧ Below w.heap.size w w' := by
  obtain ⟨F, ad, mb, hF, hR⟩ := h.rep
  exact of_own h.wf hK hT hX hR p hp
theorem at_equal3 {w02 : World} {tb2 K2 : Nat} {U : Tr} (h : At w0 w tb T K) (h2 : At w02 w tb2 U K2) (hK : K ≤ 90000) (hK2 : K2 ≤ 90000) (hT : Nt.Mok T) (hX : Nt.Bok T) (hT2 : Nt.Mok U) (hX2 : Nt.Bok U) (p q : ByteArray) (hp : p.size ≤ 100000) (hq : q.size ≤ 100000) :
    Calls Tryz.prog 43 #[.pointer (some ⟨tb, 0, none⟩), .string p, .pointer (some ⟨tb2, 0, none⟩), .string q] w fun e w' => e = .returned (.bool (eqv T p U q)) ∧ Below w.heap.size w w' := by
  obtain ⟨F, ad, mb, hF, hR⟩ := h.rep
  obtain ⟨F2, ad2, mb2, hF2, hR2⟩ := h2.rep
  exact equal15 h.wf hK hT hX hR h2.wf hK2 hT2 hX2 hR2 p q hp hq
end
/-- A row of members whose block lies below B. -/
def MRowB (B : Nat) (w : World) (A : Option Addr) (n : Nat) (l : List Mm) : Prop := MRow w A n l ∧ (0 < n → ∃ b o, A = some ⟨b, o, none⟩ ∧ b < B)
section
variable {B n : Nat} {w w' : World} {A : Option Addr} {l : List Mm}
theorem MRow.bound (h : MRow w A n l) : MRowB w.heap.size w A n l :=
  ⟨h, fun hn => by
    obtain ⟨b, o, e, ⟨cs, fz, hb⟩, _⟩ := h.1.2 hn
    exact ⟨b, o, e, lt_of_some hb⟩⟩
theorem MRowB.kept {X : Obj → Prop} (h : MRowB B w A n l) (hk : KeepX X w w') (hX : NoU8 X) (hX2 : ∀ cs fz, ¬ X (.cells cs 102 fz)) : MRowB B w' A n l :=
  ⟨⟨h.1.1.keptX hk hX2, fun x hx => (h.1.2 x hx).keptX hk hX⟩, h.2⟩
theorem MRowB.low (h : MRowB B w A n l) (hb : Below B w w') {X : Obj → Prop} (hk : KeepX X w w') (hX : NoU8 X) : MRowB B w' A n l :=
  ⟨⟨⟨h.1.1.1, fun hn => by
    obtain ⟨b, o, e, ⟨cs, fz, h1⟩, hc⟩ := h.1.1.2 hn
    obtain ⟨b2, o2, e2, hlt⟩ := h.2 hn
    rw [e] at e2
    cases e2
    exact ⟨b, o, e, ⟨cs, fz, (hb.block b hlt).trans h1⟩, fun j x hj i u hu => (hb.cell (p := ⟨b, o + j * 8 + i, none⟩) hlt).trans (hc j x hj i u hu)⟩⟩, fun x hx => (h.1.2 x hx).keptX hk hX⟩, h.2⟩
theorem memb_tree : ∀ cs fz, ¬ TreeObj (.cells cs 102 fz) := by
  rintro cs fz (⟨_, _, h⟩ | ⟨_, _, _, h, h1 | h1⟩)
  · cases h
  · cases h; cases h1
  · cases h; cases h1
/-- Rows of members. -/
def MemObj (o : Obj) : Prop := ∃ cs fz, o = .cells cs 102 fz
theorem mem_u8 : NoU8 MemObj := by
  rintro cs fz ⟨_, _, h⟩
  cases h
end
theorem joinS_size (t s : ByteArray) (h : t.size + 1 + s.size ≤ 1000) : (joinS t s).size ≤ 1000 := by
  unfold joinS
  split
  · omega
  · split
    · omega
    · rw [ByteArray.size_append, ByteArray.size_append]
      show t.size + 1 + s.size ≤ 1000
      exact h
theorem treemoved_walk (A : Option Addr) (n c : Nat) (l : List Dd) (root dst name : ByteArray) (w : World) (hl : QL w w.heap.size A n l) (hc : n ≤ c) (hc2 : c ≤ maxLen) (hy : ∀ y ∈ l, DdOk y) (hs0 : root.size ≤ maxLen) (hs1 : dst.size ≤ maxLen) (hs2 : name.size ≤ maxLen) :
    Calls Tryz.prog 6 #[.slice A n c, .agg #[.string root, .string dst, .string name]] w fun e w' => e = .returned (.bool true) ∧ Below w.heap.size w w' := by
  obtain ⟨W1, hW1, hb1, hs9, x1⟩ := frame1 w #[.string root, .string dst, .string name] 90
  have AL := Lib.hid (fun W => alive15_any W)
  have KG := Lib.hid (fun W (h : Below W1.heap.size W1 W) => lgrown_any A n c l W ((hl.below (bthen hb1 h)).wider (bthen hb1 h).size) hc hc2 hy)
  have HB1 := Lib.hid hb1
  have HX1 := Lib.hid x1
  obtain ⟨q0, q1, q2⟩ : W1.drew.cell? ⟨w.heap.size, 0, none⟩ = some (.string root) ∧ W1.drew.cell? ⟨w.heap.size, 1, none⟩ = some (.string dst) ∧ W1.drew.cell? ⟨w.heap.size, 2, none⟩ = some (.string name) :=
    ⟨(x1.later (Below.refl _ _).drew).cell rfl, (x1.later (Below.refl _ _).drew).cell rfl, (x1.later (Below.refl _ _).drew).cell rfl⟩
  clear hl hc hc2 hy hb1 x1 hs0 hs1 hs2
  go_enter Tryz.func6, Tryz.ntmps6
  go_upto_region 1 with (fail)
  go_cut [5, 6, 7] (fun v5 v6 v7 wx => v5 = .string root ∧ v6 = .string dst ∧ v7 = .string name ∧ Hid (Below W1.heap.size W1 wx))
  case first =>
    go_region_held3 (fun W => W.cell? ⟨w.heap.size, 0, none⟩ = some (.string root) ∧ W.cell? ⟨w.heap.size, 1, none⟩ = some (.string dst) ∧ W.cell? ⟨w.heap.size, 2, none⟩ = some (.string name)) (first | go_keep) (fail)
    all_goals
      go_wp2
      go_meet
      exact ⟨rfl, rfl, rfl, (Below.refl _ _).drew⟩
  case rest =>
  obtain ⟨rfl, rfl, rfl, HC⟩ := hcut
  go_upto_region 3 with (go_at_call 34; (with_reducible refine (KG.out _ HC.out).mono ?_); rintro e w3 ⟨tb, T, K, A1, n1, c1, A2, n2, c2, ok, rfl, ha, hK, ht, hm, hb⟩; have HA := Lib.hid (ha.rebase (bthen HB1.out HC.out)); have HM := Lib.hid hm; have HBk := Lib.hid hb; clear ha ht hm hb)
  obtain ⟨V3, hV3⟩ : ∃ V, w3.alloc (.cells (RvC A1 n1 c1 A2 n2 c2 T.room T.vol) 29) = V := ⟨_, rfl⟩
  have hb3 := below_new w3 (.cells (RvC A1 n1 c1 A2 n2 c2 T.room T.vol) 29)
  rw [hV3] at hb3 ⊢
  have HA3 := Lib.hid (HA.out.later hb3)
  clear hb3 hV3 HA KG HX1 q0 q1 q2 hW1 hs9
  cases ok with
  | false =>
    go_wp2_with (go_at_call 35; (with_reducible refine (AL.out _).mono ?_); rintro e w4 ⟨rfl, hb4⟩; have HB4 := Lib.hid (bthen HA3.out.low hb4); clear hb4)
    go_ret
    exact ⟨rfl, HB4.out⟩
  | true =>
    by_cases hr4 : 400 < root.size
    · have g4 : (400 : Int) < root.size := by omega
      go_wp2_with (go_at_call 35; (with_reducible refine (AL.out _).mono ?_); rintro e w4 ⟨rfl, hb4⟩; have HB4 := Lib.hid (bthen HA3.out.low hb4); clear hb4)
      go_ret
      exact ⟨rfl, HB4.out⟩
    have g4 : ¬ (400 : Int) < root.size := by omega
    by_cases ht4 : 400 < dst.size
    · have g5 : (400 : Int) < dst.size := by omega
      go_wp2_with (go_at_call 35; (with_reducible refine (AL.out _).mono ?_); rintro e w4 ⟨rfl, hb4⟩; have HB4 := Lib.hid (bthen HA3.out.low hb4); clear hb4)
      go_ret
      exact ⟨rfl, HB4.out⟩
    have g5 : ¬ (400 : Int) < dst.size := by omega
    by_cases hn4 : 400 < name.size
    · have g6 : (400 : Int) < name.size := by omega
      go_wp2_with (go_at_call 35; (with_reducible refine (AL.out _).mono ?_); rintro e w4 ⟨rfl, hb4⟩; have HB4 := Lib.hid (bthen HA3.out.low hb4); clear hb4)
      go_ret
      exact ⟨rfl, HB4.out⟩
    have g6 : ¬ (400 : Int) < name.size := by omega
    have KC := Lib.hid (at_clone3 HA3.out (by omega))
    have KI := Lib.hid (fun W (h : Below V3.heap.size V3 W) => at_info (HA3.out.later h) (by omega) root (by omega))
    have KR := Lib.hid (fun ub W (h : At V3 W ub T K) => at_rename h (by omega) root dst (by omega) (by omega))
    have HEQ := Lib.hid (fun (hf : Nt.ofE T root = 0) (hr : (T.rn root dst).2 = 0) (ht : Nt.ofE (T.rn root dst).1 dst = 0) => eqv_moved HA3.out.wf hf hr ht)
    have HSAME := Lib.hid (fun (hf : Nt.ofE T root = 0) (hr : (T.rn root dst).2 = 0) (ht : Nt.ofE (T.rn root dst).1 dst = 0) => Nt.moved_list HA3.out.wf hf hr ht)
    have HMORE := Lib.hid (fun (hf : Nt.ofE T root = 0) (hr : (T.rn root dst).2 = 0) (hm : ((T.rn root dst).1.mk' (joinS dst name) dirz).2 = 0) => eqv_more HA3.out.wf hf hr hm)
    have HMU := Lib.hid (HM.out.rn root dst)
    have HBU := Lib.hid (HBk.out.rn root dst)
    have HKIND := Lib.hid (ofL_kind HA3.out.wf root)
    have HL1 := Lib.hid (ofL_len HA3.out.wf root)
    obtain ⟨U, hU⟩ : ∃ U, (T.rn root dst).1 = U := ⟨_, rfl⟩
    obtain ⟨re, hre⟩ : ∃ z, (T.rn root dst).2 = z := ⟨_, rfl⟩
    obtain ⟨fe, hfe⟩ : ∃ z, (T.find root).2 = z := ⟨_, rfl⟩
    obtain ⟨fk, hfk⟩ : ∃ z, (T.nd (T.find root).1).kind = z := ⟨_, rfl⟩
    rw [hfe, hfk] at KI
    rw [hU] at HEQ HSAME HMORE HMU HBU
    rw [hre] at HEQ HSAME HMORE
    simp only [hU, hre] at KR
    clear hU hre hfe hfk
    by_cases h0 : fe = 0
    case neg =>
      have g0 : (fe != 0) = true := by simp [h0]
      go_wp2_with (first
        | (go_at_call 35; (with_reducible refine (AL.out _).mono ?_); rintro e w9 ⟨rfl, hb9⟩; have HB9 := Lib.hid (bthen (bthen h6.low (bthen hb7 (below_new _ _))) hb9); clear hb9)
        | (go_at_call 41; (with_reducible refine (KI.out _ h6.low).mono ?_); rintro e w7 ⟨kd, ga, gb, gc, gd, glk, gl, gA, gn, gk, rfl, hkd, hb7⟩)
        | (go_at_call 40; (with_reducible refine KC.out.mono ?_); rintro e w6 ⟨ub, rfl, h6⟩))
      go_ret
      exact ⟨rfl, HA3.out.low.trans (HB9.out.mono HA3.out.low.size)⟩
    subst h0
    by_cases hk4 : fk = 4
    case neg =>
      have g1 : (fk != 4) = true := by simp [hk4]
      go_wp2_with (first
        | (go_at_call 35; (with_reducible refine (AL.out _).mono ?_); rintro e w9 ⟨rfl, hb9⟩; have HB9 := Lib.hid (bthen (bthen h6.low (bthen hb7 (below_new _ _))) hb9); clear hb9)
        | (go_at_call 41; (with_reducible refine (KI.out _ h6.low).mono ?_); rintro e w7 ⟨kd, ga, gb, gc, gd, glk, gl, gA, gn, gk, rfl, hkd, hb7⟩; obtain rfl := hkd trivial)
        | (go_at_call 40; (with_reducible refine KC.out.mono ?_); rintro e w6 ⟨ub, rfl, h6⟩))
      go_ret
      exact ⟨rfl, HA3.out.low.trans (HB9.out.mono HA3.out.low.size)⟩
    subst hk4
    by_cases hr0 : re = 0
    case neg =>
      have g2 : (re != 0) = true := by simp [hr0]
      go_wp2_with (first
        | (go_at_call 35; (with_reducible refine (AL.out _).mono ?_); rintro e w9 ⟨rfl, hb9⟩; have HB9 := Lib.hid (bthen h8.low hb9); clear hb9)
        | (go_at_call 41; (with_reducible refine (KI.out _ h6.low).mono ?_); rintro e w7 ⟨kd, ga, gb, gc, gd, glk, gl, gA, gn, gk, rfl, hkd, hb7⟩; obtain rfl := hkd trivial)
        | (go_at_call 42; (with_reducible refine (KR.out ub _ (h6.later (bthen hb7 (below_new _ _)))).mono ?_); rintro e w8 ⟨rfl, h8⟩)
        | (go_at_call 40; (with_reducible refine KC.out.mono ?_); rintro e w6 ⟨ub, rfl, h6⟩))
      go_ret
      exact ⟨rfl, HA3.out.low.trans (HB9.out.mono HA3.out.low.size)⟩
    subst hr0
    have KO1 := Lib.hid (fun W (h : Below V3.heap.size V3 W) => at_ofO (HA3.out.later h) (by omega) HM.out HBk.out root (by omega))
    have KO2 := Lib.hid (fun ub W (h : At V3 W ub U (K + 301)) => at_ofO h (by omega) HMU.out HBU.out dst (by omega))
    obtain ⟨oe, hoe⟩ : ∃ z, Nt.ofE T root = z := ⟨_, rfl⟩
    obtain ⟨of, hof⟩ : ∃ z, Nt.ofE U dst = z := ⟨_, rfl⟩
    rw [hoe, hof] at HEQ HSAME
    rw [hoe] at HMORE
    simp only [hoe] at KO1
    simp only [hof] at KO2
    clear hoe hof
    go_upto_region 11 with (first
      | (go_at_call 36; (with_reducible refine (KO1.out _ h8.low).mono ?_); rintro e w9 ⟨B1, d1, L1, rfl, hL1, hmr1, hlc1, hlm1, hb9⟩; have HL1E := Lib.hid hL1; have HMR1 := Lib.hid hmr1; have h9 := h8.later hb9; clear hL1 hmr1)
      | (go_at_call 36; (with_reducible refine (KO2.out ub _ h9).mono ?_); rintro e w10 ⟨B2, d2, L2, rfl, hL2, hmr2, hlc2, ⟨hlm2, how2⟩, hb10⟩; have HL2E := Lib.hid hL2; have HMR2 := Lib.hid hmr2; have HOW := Lib.hid how2; have HBW9 := Lib.hid hb10; have h10 := Lib.hid (h9.later hb10); clear hL2 hmr2 how2 hb10 h9)
      | (go_at_call 41; (with_reducible refine (KI.out _ h6.low).mono ?_); rintro e w7 ⟨kd, ga, gb, gc, gd, glk, gl, gA, gn, gk, rfl, hkd, hb7⟩; obtain rfl := hkd trivial; clear hkd)
      | (go_at_call 42; (with_reducible refine (KR.out ub _ (h6.later (bthen hb7 (below_new _ _)))).mono ?_); rintro e w8 ⟨rfl, h8⟩)
      | (go_at_call 40; (with_reducible refine KC.out.mono ?_); rintro e w6 ⟨ub, rfl, h6⟩))
    have HA10 := Lib.hid (HA3.out.later h10.out.low)
    have HB1Y := Lib.hid (byt_er HL1E.out (ofL_byt HBk.out root))
    have HB2Y := Lib.hid (byt_er HL2E.out (ofL_byt HBU.out dst))
    have hn1 : L1.length ≤ 100000 := by
      have h1 := congrArg List.length HL1E.out
      rw [List.length_map, List.length_map] at h1
      have := HL1.out
      omega
    have hn2 : L2.length ≤ 100000 := by
      have h1 := congrArg List.length HL2E.out
      rw [List.length_map, List.length_map] at h1
      have := ofL_len h10.out.wf dst
      omega
    have HR1 := Lib.hid (HMR1.out.bound.low HBW9.out (KeepX.ofBelow HBW9.out) tree_u8)
    obtain ⟨N1, hN1⟩ : ∃ N, L1.length = N := ⟨_, rfl⟩
    obtain ⟨N2, hN2⟩ : ∃ N, L2.length = N := ⟨_, rfl⟩
    rw [hN1] at HR1 hn1 hlc1 ⊢
    rw [hN2] at HMR2 HOW hn2 hlc2 ⊢
    have HN2 := Lib.hid hN2
    have KS := Lib.hid (tsame_any B1 N1 d1 B2 N2 d2 L1 L2 w10 HR1.out.1.weak HMR2.out.weak (by omega) (by omega) HB1Y.out HB2Y.out)
    have KE := Lib.hid (fun W (h : Below w10.heap.size w10 W) => at_equal3 (HA10.out.later h) (h10.out.later h) (by omega) (by omega) HM.out HBk.out HMU.out HBU.out root dst (by omega) (by omega))
    have hdif : oe = 0 → of = 0 → (dif L1 L2).2 = false := fun h1 h2 => by
      rw [dif_er HL1E.out HL2E.out, HSAME.out h1 trivial h2]
      exact dif_same _
    have HDIF := Lib.hid hdif
    have h8l := Lib.hid (show V3.heap.size ≤ w9.heap.size from by have h1 := h8.low.size; have h2 := hb9.size; omega)
    clear hdif hN1 hN2 HMR1 KI KR KC h8 KO1 KO2
    go_cut [104] (fun v wx => v = .bool false ∧ Hid (Below w10.heap.size w10 wx))
    case first =>
      by_cases he : oe = 0
      · by_cases hf : of = 0
        · have hq := HEQ.out he trivial hf
          have hd := HDIF.out he hf
          rw [hd] at KS
          simp only [hq] at KE
          have ge : (oe == 0) = true := by simp [he]
          have gf : (of == 0) = true := by simp [hf]
          clear hq hd he hf
          go_wp2_with (first
            | (go_at_call 38; (with_reducible refine KS.out.mono ?_); rintro e w11 ⟨rfl, hb11⟩)
            | (go_at_call 43; (with_reducible refine (KE.out _ hb11).mono ?_); rintro e w12 ⟨rfl, hb12⟩; have HB12 := Lib.hid (bthen hb11 hb12)))
          go_meet
          exact ⟨rfl, HB12.out⟩
        · have ge : (oe == 0) = true := by simp [he]
          have gf : (of == 0) = false := by simp [hf]
          go_wp2
          go_meet
          exact ⟨rfl, Below.refl _ _⟩
      · have ge : (oe == 0) = false := by simp [he]
        go_wp2
        go_meet
        exact ⟨rfl, Below.refl _ _⟩
    case rest =>
      obtain ⟨rfl, HC2⟩ := hcut
      by_cases he : oe = 0
      case neg =>
        have ge : (oe != 0) = true := by simp [he]
        go_wp2_with (go_at_call 35; (with_reducible refine (AL.out _).mono ?_); rintro e w15 ⟨rfl, hb15⟩; have HB15 := Lib.hid (bthen (bthen h10.out.low HC2.out) hb15); clear hb15)
        go_ret
        exact ⟨rfl, HA3.out.low.trans (HB15.out.mono HA3.out.low.size)⟩
      have HUC := Lib.hid (h10.out.later HC2.out)
      have hjs : (joinS dst name).size ≤ 1000 := joinS_size dst name (by omega)
      have KJ := Lib.hid (refjoin_any4 dst name wc (by omega) (by omega))
      have KM := Lib.hid (at_mkdirX HUC.out (by omega) (joinS dst name) (by omega))
      have HM2 := Lib.hid (HMORE.out he trivial)
      have HMU2 := Lib.hid (HMU.out.mk' (joinS dst name) dirz)
      have HBU2 := Lib.hid (HBU.out.mk' (joinS dst name) dirz Byt.nil)
      obtain ⟨jn, hjn⟩ : ∃ z, joinS dst name = z := ⟨_, rfl⟩
      rw [hjn] at KJ KM HM2 HMU2 HBU2
      obtain ⟨⟨U2, me⟩, hU2⟩ : ∃ z, U.mk' jn dirz = z := ⟨_, rfl⟩
      rw [hU2] at KM HM2 HMU2 HBU2
      simp only at KM HM2 HMU2 HBU2
      have ge : (oe != 0) = false := by simp [he]
      clear hU2 hjn hjs he HMORE HEQ HSAME HDIF KS KE
      by_cases hm0 : me = 0
      case neg =>
        have gm : (me != 0) = true := by simp [hm0]
        go_wp2_with (first
          | (go_at_call 35; (with_reducible refine (AL.out _).mono ?_); rintro e w15 ⟨rfl, hb15⟩; have HB15 := Lib.hid (bthen h11.low hb15); clear hb15)
          | (go_at_call 44; (with_reducible refine KM.out.mono ?_); rintro e w11 ⟨rfl, h11, hk11⟩)
          | (go_at_call 45; (with_reducible refine KJ.out.mono ?_); rintro e w5x ⟨rfl, rfl⟩))
        go_ret
        exact ⟨rfl, HA3.out.low.trans (HB15.out.mono HA3.out.low.size)⟩
      subst hm0
      have HEV := HM2.out rfl
      go_upto_region 15 with (first
        | (go_at_call 44; (with_reducible refine KM.out.mono ?_); rintro e w11 ⟨rfl, h11, hk11⟩)
        | (go_at_call 45; (with_reducible refine KJ.out.mono ?_); rintro e w5x ⟨rfl, rfl⟩))
      have h9l : w9.heap.size ≤ w10.heap.size := HBW9.out.size
      have hcl : w10.heap.size ≤ wc.heap.size := HC2.out.size
      have hml : wc.heap.size ≤ w11.heap.size := hk11.size
      have hR1 := ((HR1.out.low (HC2.out.mono h9l) (KeepX.ofBelow (X := TreeObj) HC2.out) tree_u8).kept hk11 tree_u8 memb_tree)
      have hR2 : MRow w11 B2 N2 L2 := by
        have h1 := HMR2.out.below HC2.out
        exact ⟨h1.1.keptX hk11 memb_tree, fun x hx => (h1.2 x hx).keptX hk11 tree_u8⟩
      have ho2 := own_keptX15 (own_keep13 HOW.out fun k hk => HC2.out.block k (World.ownsRow.lt HOW.out k hk).2) hk11 memb_tree
      have b12 := below_new w11 (.cells (MmC (name, ⟨0, 0, 0, 0, 0, ⟨#[]⟩, none, 0, 0, []⟩)) 102)
      have hx12 := BX.new w11 102 (MmC (name, ⟨0, 0, 0, 0, 0, ⟨#[]⟩, none, 0, 0, []⟩))
      have hV12 : w11.alloc (.cells (MmC (name, ⟨0, 0, 0, 0, 0, ⟨#[]⟩, none, 0, 0, []⟩)) 102) = w11.alloc (.cells #[.string name, .int .i64 0, .int .i64 0, .int .i64 0, .int .i64 0, .int .i64 0, .string ⟨#[]⟩, .slice none 0 0] 102) := rfl
      obtain ⟨V12, hVe⟩ : ∃ V, w11.alloc (.cells (MmC (name, ⟨0, 0, 0, 0, 0, ⟨#[]⟩, none, 0, 0, []⟩)) 102) = V := ⟨_, rfl⟩
      rw [hVe] at b12 hx12 hV12
      have ho3 := own_keep13 ho2 fun k hk => b12.block k (World.ownsRow.lt ho2 k hk).2
      obtain ⟨v12, w12, hrun, hown, hgr, _⟩ := app_mmN HN2.out ho3 (rowof_one (C := MmC) (z := 8) (x := ((name, ⟨0, 0, 0, 0, 0, ⟨#[]⟩, none, 0, 0, []⟩) : Mm)) hx12) 1 (by omega) (by have := b12.size; omega)
      obtain ⟨A12, c12, rfl, hrow12, _, _⟩ := own_rowof MmC_size hown (by rw [List.length_append, HN2.out]; rfl)
      have hb12 : Below w9.heap.size V12 w12 := (Below.refl _ _).grown hgr (by have := b12.size; omega) (fun k hk => (World.ownsRow.lt ho3 k hk).1)
      have hkm : KeepX MemObj V12 w12 := KeepX.ofGrown hgr fun a ha => by
        obtain ⟨cs, h2⟩ := own_block13 ho3 ha
        exact ⟨_, h2, _, _, rfl⟩
      have r1 := ((hR1.low (b12.mono (by omega)) (KeepX.ofBelow (X := MemObj) b12) mem_u8).low hb12 hkm mem_u8).1.weak
      have r2 : MRowW w12 A12 (N2 + 1) (L2 ++ [(name, ⟨0, 0, 0, 0, 0, ⟨#[]⟩, none, 0, 0, []⟩)]) := ⟨hrow12.weak, fun x hx => by
        rcases List.mem_append.1 hx with h1 | h1
        · exact (((hR2.2 x h1).below b12).keptX hkm mem_u8).weak
        · obtain rfl := List.mem_singleton.1 h1
          exact ⟨RB.nil, Nat.le_refl _, Nat.zero_le _⟩⟩
      have KD := tdiffer_any B1 N1 d1 A12 (N2 + 1) c12 L1 (L2 ++ [(name, ⟨0, 0, 0, 0, 0, ⟨#[]⟩, none, 0, 0, []⟩)]) w12 r1 r2 (by omega) (by omega) HB1Y.out (fun x hx => by
        rcases List.mem_append.1 hx with h1 | h1
        · exact HB2Y.out x h1
        · obtain rfl := List.mem_singleton.1 h1
          exact Byt.nil)
      rw [dif_more (fun x hx => by
        have h1 : erm x ∈ (Nt.ofL T root).map erm := by rw [← HL1E.out]; exact List.mem_map.2 ⟨x, hx, rfl⟩
        obtain ⟨y, hy, he⟩ := List.mem_map.1 h1
        have h2 : y.2.kind = x.2.kind := (congrArg (fun m : Mm => m.2.kind) he : (erm y).2.kind = (erm x).2.kind)
        rw [← h2]
        exact HKIND.out y hy) rfl] at KD
      have KD := Lib.hid KD
      have hl12 : Below V3.heap.size V3 w12 := by
        have h1 := h11.low
        have h2 := bthen h1 b12
        have hv9 : V3.heap.size ≤ w9.heap.size := by have := h8l.out; omega
        exact h2.trans (hb12.mono hv9)
      have hu12 := (h11.later b12).keptN (fun k o hk ht => hkm.block k o hk fun hm => by
        obtain ⟨cs, fz, rfl⟩ := hm
        exact memb_tree cs fz ht) (hb12.mono (by have := h8l.out; omega))
      have KE := Lib.hid (fun W (h : Below w12.heap.size w12 W) => at_equal3 (HA3.out.later (bthen hl12 h)) (hu12.later h) (by omega) (by omega) HM.out HBk.out HMU2.out HBU2.out root dst (by omega) (by omega))
      simp only [HEV] at KE
      have HRUN := Lib.hid hrun
      have HL12 := Lib.hid hl12
      clear hR1 hR2 ho2 ho3 b12 hx12 hrun hown hgr hrow12 hb12 hkm r1 r2 hu12 hl12 h11 hk11
      go_wp2_with (first
        | (go_at_call 35; (with_reducible refine (AL.out _).mono ?_); rintro e w15 ⟨rfl, hb15⟩; have HB15 := Lib.hid (bthen HB14.out hb15); clear hb15)
        | (go_at_call 43; (with_reducible refine (KE.out _ hb13).mono ?_); rintro e w14 ⟨rfl, hb14⟩; have HB14 := Lib.hid (bthen (bthen HL12.out hb13) hb14); clear hb14)
        | (go_at_call 46; (with_reducible refine KD.out.mono ?_); rintro e w13 ⟨rfl, hb13⟩)
        | (at_builtin; rw [← hV12]; refine Lib.wpList_append_run _ rfl _ _ 81 81 rfl _ _ rfl rfl _ _ HRUN.out ?_))
      go_ret
      exact ⟨rfl, HA3.out.low.trans (HB15.out.mono HA3.out.low.size)⟩
end Go.Proofs.YthgbncpiehcghaaGreatDoor
