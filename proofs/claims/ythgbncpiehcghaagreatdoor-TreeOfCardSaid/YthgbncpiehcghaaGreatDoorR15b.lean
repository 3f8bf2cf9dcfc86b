/- WALKS OF THE DOCUMENT's LIST: Of. -/
import Derived.Test.YthgbncpiehcghaaGreatDoorR15a
import Derived.Test.YthgbncpiehcghaaGreatDoorGr2
import Derived.Test.YthgbncpiehcghaaGreatDoorGd1
namespace Go.Proofs.YthgbncpiehcghaaGreatDoor
set_option linter.unusedVariables false
open Go Go.RowKit Go.Maps
set_option maxRecDepth 100000
set_option maxHeartbeats 8000000
open Nt (Tr Nd WF Ps Path at_ cnt used txt Mm)
/-- What is told of a path while its node's first one is sought. -/
def hdM (X : Nd) (S : Ps) (p : ByteArray) : Option Nat → Mm
  | none => (p, X)
  | some t => (p, { X with kind := 2, link := txt (S.getD t ([], 0)).1, A := none, n := 0, c := 0, xs := [] })
/-- The first of the places from k to i that has this node. -/
def InvH (S : Ps) (n i k : Nat) : Option Nat → Prop
  | none => ∀ (t : Nat) y, k ≤ t → t < i → S[t]? = some y → y.2 ≠ n
  | some t => k ≤ t ∧ t < i ∧ (∃ y, S[t]? = some y ∧ y.2 = n) ∧ ∀ (t' : Nat) y, k ≤ t' → t' < t → S[t']? = some y → y.2 ≠ n
theorem invh_more {S : Ps} {n i k : Nat} {o : Option Nat} {y : Path × Nat} (h : InvH S n i (k + 1) o) (hy : S[k]? = some y) (hn : y.2 ≠ n) : InvH S n i k o := by
  cases o with
  | none =>
    intro t z ht hi hz
    by_cases e : t = k
    · subst e
      rw [hy] at hz
      cases hz
      exact hn
    · exact h t z (by omega) hi hz
  | some t =>
    obtain ⟨h1, h2, h3, h4⟩ := h
    refine ⟨by omega, h2, h3, fun t' z ht hi hz => ?_⟩
    by_cases e : t' = k
    · subst e
      rw [hy] at hz
      cases hz
      exact hn
    · exact h4 t' z (by omega) hi hz
theorem invh_hit {S : Ps} {n i k : Nat} {y : Path × Nat} (hk : k < i) (hy : S[k]? = some y) (hn : y.2 = n) : InvH S n i k (some k) :=
  ⟨Nat.le_refl _, hk, ⟨y, hy, hn⟩, fun t' z h1 h2 => absurd h2 (by omega)⟩
theorem hd_mm {T : Tr} {S : Ps} {i : Nat} {y : Path × Nat} {o : Option Nat} (hk : (T.nd y.2).kind = 1) (h : InvH S y.2 i 0 o) (hi : i < S.length) : hdM (T.nd y.2) S (txt y.1) o = Nt.mm T S i y := by
  unfold Nt.mm
  cases o with
  | none =>
    have hno : ¬ Nt.fst S y.2 < i := fun hf => by
      have hlt : Nt.fst S y.2 < S.length := by omega
      have h1 := List.findIdx_getElem (p := fun z : Path × Nat => z.2 == y.2) (xs := S) (w := hlt)
      exact h _ _ (Nat.zero_le _) hf (List.getElem?_eq_getElem hlt) (show _ from (beq_iff_eq.1 h1))
    rw [if_neg fun e => hno e.2]
    rfl
  | some t =>
    obtain ⟨_, h2, ⟨z, hz, hzn⟩, h4⟩ := h
    obtain ⟨hl, he⟩ := List.getElem?_eq_some_iff.1 hz
    have hf : Nt.fst S y.2 = t := by
      unfold Nt.fst
      refine (List.findIdx_eq hl).2 ⟨by rw [he]; simpa using hzn, fun t' ht' => ?_⟩
      have := h4 t' _ (Nat.zero_le _) ht' (List.getElem?_eq_getElem (by omega))
      simpa using this
    rw [if_pos ⟨hk, by omega⟩, hf]
    rfl
theorem mm_plain {T : Tr} {S : Ps} {i : Nat} {y : Path × Nat} (hk : (T.nd y.2).kind ≠ 1) : hdM (T.nd y.2) S (txt y.1) none = Nt.mm T S i y := by
  unfold Nt.mm
  rw [if_neg fun e => hk e.1]
  rfl
abbrev Rmz : Value := .agg #[.string "".toUTF8, .int .i64 0, .int .i64 0, .int .i64 0, .int .i64 0, .int .i64 0, .string "".toUTF8, .slice none 0 0]
theorem info_rmemb15 : (Tryz.prog.info? 156).map (fun i => (i.zero, i.size, i.bytes)) = some (some Rmz, 8, 96) := by kernel_rfl
theorem app_rmN {w : World} {A : Option Addr} {n k : Nat} {base : Nat} {v : Value} {l1 l : List Mm} (hk : l1.length = k) (hown : w.ownsRow base 156 8 v k (rl MmC l1)) (hr : RowOf MmC 8 156 w A n l) (c : Nat) (h9 : k + n ≤ 1000000) (hb : base ≤ w.heap.size) :
    ∃ v' w', (Builtin.append_ #[84, 84] 84 #[v, .slice A n c]).run Tryz.prog w = .ok v' w' ∧ w'.ownsRow base 156 8 v' (k + n) (rl MmC (l1 ++ l)) ∧ Below base w w' := by
  subst hk
  obtain ⟨i0, hi, hz0, hz1, hz2⟩ := info_parts info_rmemb15
  obtain ⟨v', w', h1, h2, h3, _⟩ := app_row 84 i0 Rmz 96 Tryz.underlying84 hi hz0 hz1 hz2 rfl (by decide) MmC_size MmC_one hown hr c (by unfold maxLen; omega) (by omega) hb
  exact ⟨v', w', h1, h2, (Below.refl _ _).grown h3 hb fun k h => (World.ownsRow.lt hown k h).1⟩
theorem mms_data {w : World} {B : Nat} {A1 A2 : Option Addr} {n1 c1 n2 c2 K : Nat} {T : Tr} {P : Path} (h : RTr w B A1 n1 c1 A2 n2 c2 T) (hW : WF T K) : ∀ x ∈ Nt.mms T (Nt.srt T.paths P), MmW w x := by
  intro x hx
  obtain ⟨i, hi, he⟩ := List.getElem_of_mem hx
  rw [Nt.mms_len] at hi
  have h1 := Nt.mms_at (T := T) (List.getElem?_eq_getElem hi)
  rw [List.getElem?_eq_getElem (by rw [Nt.mms_len]; exact hi), he] at h1
  cases h1
  have hy := (Nt.mem_srt.1 (List.getElem_mem hi)).2
  have hn : ((Nt.srt T.paths P)[i]).2 < T.nodes.length := hW.lt _ _ hy
  have hm : T.nd ((Nt.srt T.paths P)[i]).2 ∈ T.nodes := by
    unfold Tr.nd
    rw [List.getD_eq_getElem?_getD, List.getElem?_eq_getElem hn]
    exact List.getElem_mem _
  have hd := h.data _ hm
  unfold Nt.mm
  split
  · exact ⟨RB.nil, Nat.le_refl _, Nat.zero_le _⟩
  · exact ⟨hd.1.more h.base, hd.2⟩
theorem set3b15 {w : World} {a : Nat} {U : TypeId} {c0 c1 c2 c3 c4 c5 c6 c7 : Value} (hx : BX w a U #[c0, c1, c2, c3, c4, c5, c6, c7]) (v1 v6 v7 : Value) :
    BX (((w.setCell ⟨a, 1, none⟩ v1).setCell ⟨a, 6, none⟩ v6).setCell ⟨a, 7, none⟩ v7) a U #[c0, v1, c2, c3, c4, c5, v6, v7] ∧ BX (((w.setCell ⟨a, 1, none⟩ v1).setCell ⟨a, 7, none⟩ v7).setCell ⟨a, 6, none⟩ v6) a U #[c0, v1, c2, c3, c4, c5, v6, v7] ∧ BX (((w.setCell ⟨a, 6, none⟩ v6).setCell ⟨a, 1, none⟩ v1).setCell ⟨a, 7, none⟩ v7) a U #[c0, v1, c2, c3, c4, c5, v6, v7] ∧ BX (((w.setCell ⟨a, 6, none⟩ v6).setCell ⟨a, 7, none⟩ v7).setCell ⟨a, 1, none⟩ v1) a U #[c0, v1, c2, c3, c4, c5, v6, v7] ∧ BX (((w.setCell ⟨a, 7, none⟩ v7).setCell ⟨a, 1, none⟩ v1).setCell ⟨a, 6, none⟩ v6) a U #[c0, v1, c2, c3, c4, c5, v6, v7] ∧ BX (((w.setCell ⟨a, 7, none⟩ v7).setCell ⟨a, 6, none⟩ v6).setCell ⟨a, 1, none⟩ v1) a U #[c0, v1, c2, c3, c4, c5, v6, v7] := by
  refine ⟨?_, ?_, ?_, ?_, ?_, ?_⟩
  · have h9 := ((hx.set 1 v1).set 6 v6).set 7 v7
    simpa using h9
  · have h9 := ((hx.set 1 v1).set 7 v7).set 6 v6
    simpa using h9
  · have h9 := ((hx.set 6 v6).set 1 v1).set 7 v7
    simpa using h9
  · have h9 := ((hx.set 6 v6).set 7 v7).set 1 v1
    simpa using h9
  · have h9 := ((hx.set 7 v7).set 1 v1).set 6 v6
    simpa using h9
  · have h9 := ((hx.set 7 v7).set 6 v6).set 1 v1
    simpa using h9
theorem parts_isP {s : ByteArray} (h : Nt.isP s = true) : (Pp.partsS s).2 = 0 := by unfold Nt.isP at h; simpa using h
theorem parts_notP {s : ByteArray} (h : ¬ Nt.isP s = true) : (Pp.partsS s).2 ≠ 0 := by unfold Nt.isP at h; simpa using h
section
variable {w : World} {B : Nat} {A1 A2 : Option Addr} {n1 c1 n2 c2 : Nat} {T : Tr}
theorem refof_any {K : Nat} (h : RTr w B A1 n1 c1 A2 n2 c2 T) (hW : WF T K) (hK : K ≤ 90000) (a b : Int) (p : ByteArray) (hp : p.size ≤ 100000) :
    Calls Tryz.prog 37 #[.agg (RvC A1 n1 c1 A2 n2 c2 a b), .string p] w fun e w' => ∃ A c L, e = .returned (.tuple #[.slice A L.length c, .int .i64 (Nt.ofE T p)]) ∧ L = Nt.ofL T p ∧ RMRow w' A L.length L ∧ Below w.heap.size w w' := by
  obtain ⟨W1, hW1, hb1, hs1, x1⟩ := frame1 w (RvC A1 n1 c1 A2 n2 c2 a b) 29
  have CF := Lib.hid (fun W (hh : Below W1.heap.size W1 W) => show W.cell? ⟨w.heap.size, 0, none⟩ = some (.slice A1 n1 c1) ∧ W.cell? ⟨w.heap.size, 1, none⟩ = some (.slice A2 n2 c2) ∧ W.cell? ⟨w.heap.size, 2, none⟩ = some (.int .i64 a) ∧ W.cell? ⟨w.heap.size, 3, none⟩ = some (.int .i64 b) from
    ⟨(x1.later hh).cell rfl, (x1.later hh).cell rfl, (x1.later hh).cell rfl, (x1.later hh).cell rfl⟩)
  have hr1 := h.below hb1
  have kl := Lib.hid (reflist_any hr1 hW (by omega) a b p hp)
  have HB1 := Lib.hid hb1
  obtain ⟨y0, y1, y2, y3⟩ := CF.out _ (Below.refl _ _)
  by_cases h0 : Nt.lisE T p = 0
  · obtain ⟨hf0, hk4⟩ := show (T.find p).2 = 0 ∧ (T.nd (T.find p).1).kind = 4 from by
      unfold Nt.lisE at h0
      by_cases e : (T.find p).2 = 0
      · rw [if_neg (by simp [e])] at h0
        refine ⟨e, ?_⟩
        by_cases e2 : (T.nd (T.find p).1).kind = 4
        · exact e2
        · rw [if_pos e2] at h0
          exact absurd h0 (by decide)
      · rw [if_pos e] at h0
        exact absurd h0 e
    obtain ⟨hps, hm⟩ := hW.find_ok hf0
    have hPN : ∀ x ∈ Nt.nms p, Pp.Nm x := Nt.nms_ok (by rcases hps with h | h; exact .inr h; exact .inl h)
    have hE : Nt.ofE T p = if Nt.longB T.paths (Nt.nms p) = true then 8 else 0 := by unfold Nt.ofE; rw [if_neg (by simp [h0])]
    have ks := Lib.hid (fun W (hh : Below W1.heap.size W1 W) => refsorted_any (hr1.below hh) hW (by omega) a b hPN (by rw [Nt.txt_nms]; exact hp))
    rw [Nt.txt_nms] at ks
    rw [h0] at kl
    obtain ⟨P, hP⟩ : ∃ P, Nt.nms p = P := ⟨_, rfl⟩
    have hpt : txt P = p := by rw [← hP]; exact Nt.txt_nms p
    have hofL : Nt.ofL T p = if Nt.ofE T p = 0 then Nt.mms T (Nt.srt T.paths P) else [] := by unfold Nt.ofL; rw [hP]
    rw [hP] at hPN hE ks
    obtain ⟨S, hS⟩ : ∃ S, Nt.srt T.paths P = S := ⟨_, rfl⟩
    have hSm : ∀ y ∈ S, y.1 ≠ [] ∧ (P ++ y.1, y.2) ∈ T.paths := fun y hy => by rw [← hS] at hy; exact Nt.mem_srt.1 hy
    have hSn : S.length ≤ 90000 := by
      rw [← hS]
      exact Nat.le_trans (srt_len _ _) (Nat.le_trans hW.many hK)
    have hlong : Nt.longB T.paths P = S.any (fun y => decide (300 < (txt (P ++ y.1)).size)) := by unfold Nt.longB; rw [hS]
    have hdat : ∀ W, Below W1.heap.size W1 W → ∀ x ∈ Nt.mms T S, MmW W x := fun W hh x hx => by
      rw [← hS] at hx
      exact (mms_data hr1 hW x hx).below hh
    rw [hS] at hofL ks
    have HSM := Lib.hid hSm
    have HZD := Lib.hid hdat
    have HR1 := Lib.hid hr1
    have HW := Lib.hid hW
    have HPN := Lib.hid hPN
    have HPT := Lib.hid hpt
    have HLONG := Lib.hid hlong
    have HE := Lib.hid hE
    have HOFL := Lib.hid hofL
    clear h hW hr1 hb1 x1 hf0 hk4 hps hm hSm hdat hPN hpt hlong hS hP hE hofL
    go_enter Tryz.func37, Tryz.ntmps37
    go_upto_region 6 with (first
      | (go_at_call 87; (with_reducible refine (ks.out _ hb2).mono ?_); rintro e w3 ⟨v, rfl, ho, hb3⟩; have HO := Lib.hid ho; have HB3 := Lib.hid (bthen hb2 hb3); clear ho hb3)
      | (go_at_call 64; (with_reducible refine kl.out.mono ?_); rintro e w2 ⟨vl, rfl, _, hb2⟩; obtain ⟨z0, z1, z2, z3⟩ := CF.out _ hb2))
    obtain ⟨As, cs, rfl, hrow, hsc1, hsc2⟩ := own_rowof AtC_size HO.out (by unfold tps; rw [List.length_map])
    obtain ⟨N, hN⟩ : ∃ N, S.length = N := ⟨_, rfl⟩
    rw [hN] at hSn hrow hsc1 ⊢
    have HN := Lib.hid hN
    have HSR := Lib.hid hrow
    have HB3W := Lib.hid (bthen HB1.out HB3.out)
    clear hrow hN HO kl ks hW1 hs1
    go_wp2
    go_loopw [9, 10] (fun v i W => ∃ (j : Nat), j ≤ N ∧ i = .int .i64 j ∧ Hid (∀ (t : Nat) y, t < j → S[t]? = some y → ¬ 300 < (txt (P ++ y.1)).size) ∧ Hid (W.ownsRow w3.heap.size 156 8 v j (rl MmC ((Nt.mms T S).take j))) ∧ Hid (Below w3.heap.size w3 W)) (fun _ i _ => N - (intOf i).toNat)
    case atStart => exact ⟨0, Nat.zero_le _, rfl, fun t y ht => absurd ht (by omega), World.ownsRow_nil _ _ _ _, Below.refl _ _⟩
    case round =>
      revert hrel
      generalize wr = V
      intro hrel
      obtain ⟨j, hj, rfl, HSH, HO, HB⟩ := hrel
      have hml : (Nt.mms T S).length = N := by rw [Nt.mms_len]; exact HN.out
      have htl : ((Nt.mms T S).take j).length = j := by rw [List.length_take, hml]; omega
      by_cases hlt : j < N
      · have hlt' : (j : Int) < N := by omega
        obtain ⟨g, o, x, rfl, hx, hc⟩ := (HSR.out.below HB.out).at_ hlt
        obtain ⟨q, hq, hqt⟩ := tps_at hx
        obtain ⟨s, m⟩ := x
        replace hqt : s = txt q := hqt
        obtain ⟨hq0, hqp⟩ := HSM.out _ (List.mem_of_getElem? hq)
        replace hqp : (P ++ q, m) ∈ T.paths := hqp
        replace hq0 : q ≠ [] := hq0
        have hqN : ∀ x ∈ q, Pp.Nm x := fun x hx => HW.out.names _ _ hqp x (List.mem_append_right _ hx)
        have hpl : (txt (P ++ q)).size ≤ 90000 := by have := HW.out.long _ _ hqp; omega
        have hmn : m < n1 := by rw [← HR1.out.len1]; exact HW.out.lt _ _ hqp
        have hsl : s.size ≤ 90000 := by rw [hqt]; have h1 := Nt.txt_drop_size P q; omega
        have KJ := Lib.hid (fun W => refjoin_any4 p s W (by omega) (by omega))
        have hjj : joinS p s = txt (P ++ q) := by rw [← HPT.out, hqt]; exact join_txt2 HPN.out hqN
        rw [hjj] at KJ
        have KP := Lib.hid (fun W => refparts_any (txt (P ++ q)) W (by omega))
        have hisP : Nt.isP (txt (P ++ q)) = true ↔ (txt (P ++ q)).size ≤ 300 := by
          rw [Nt.isP_iff]
          refine ⟨fun h => h.1, fun h => ⟨h, fun x hx => ?_⟩⟩
          rw [Nt.pieces_txt (by intro e; exact hq0 (List.append_eq_nil_iff.1 e).2) (fun x hx => HW.out.names _ _ hqp x hx)] at hx
          exact HW.out.names _ _ hqp x hx
        have d0 : V.cell? ⟨g, o + j * 2, none⟩ = some (.string s) := hc 0 _ rfl
        have SS := Lib.hid (fun (t : Nat) (ht : t < N) => show ∃ q' m', S[t]? = some (q', m') ∧ ∀ W, Below w3.heap.size w3 W → W.cell? ⟨g, o + t * 2, none⟩ = some (.string (txt q')) ∧ W.cell? ⟨g, o + t * 2 + 1, none⟩ = some (.int .i64 (m' : Nat)) from by
          obtain ⟨g', o', x', e', hx', _⟩ := HSR.out.at_ ht
          cases e'
          obtain ⟨q', hq', hqt'⟩ := tps_at hx'
          refine ⟨q', x'.2, hq', fun W hW => ?_⟩
          obtain ⟨g'', o'', x'', e'', hx'', hc''⟩ := (HSR.out.below hW).at_ ht
          cases e''
          rw [hx'] at hx''
          cases hx''
          exact ⟨by rw [← hqt']; exact hc'' 0 _ rfl, hc'' 1 _ rfl⟩)
        have HQ := Lib.hid hq
        have HQT := Lib.hid hqt
        have hbw1 : Below W1.heap.size W1 V := HB3.out.trans (HB.out.mono HB3.out.size)
        obtain ⟨y0, y1, y2, y3⟩ := CF.out _ hbw1
        by_cases hlg : 300 < (txt (P ++ q)).size
        · have hpe := parts_notP (s := txt (P ++ q)) (fun h => by have := hisP.1 h; omega)
          have hE8 : Nt.ofE T p = 8 := by
            rw [HE.out, if_pos]
            rw [HLONG.out, List.any_eq_true]
            exact ⟨(q, m), List.mem_of_getElem? hq, by simpa using hlg⟩
          have hofl : Nt.ofL T p = [] := by rw [HOFL.out, hE8, if_neg (by decide)]
          have HE8 := Lib.hid hE8
          have HO8 := Lib.hid hofl
          obtain ⟨pe, hpe2⟩ : ∃ z, (Pp.partsS (txt (P ++ q))).2 = z := ⟨_, rfl⟩
          obtain ⟨pl, hpl2⟩ : ∃ z, (Pp.partsS (txt (P ++ q))).1 = z := ⟨_, rfl⟩
          rw [hpe2] at hpe
          simp only [hpe2, hpl2] at KP
          have gpe : (pe != 0) = true := by simp [hpe]
          generalize txt (P ++ q) = pq at *
          clear hx hc hq hqt hE8 hofl hq0 hqp hqN hisP hpe2 hpl2 hpe
          go_wp2_with (first
            | (go_at_call 67; (with_reducible refine (KP.out _).mono ?_); rintro e w5 ⟨vp, rfl, _, hb5⟩; have HB5 := Lib.hid (bthen HB.out hb5); clear hb5)
            | (go_at_call 45; (with_reducible refine (KJ.out _).mono ?_); rintro e w4 ⟨rfl, rfl⟩))
          go_ret2
          exact ⟨none, 0, [], by rw [HE8.out]; rfl, HO8.out.symm, ⟨⟨rfl, fun h => absurd h (Nat.lt_irrefl 0)⟩, fun x hx => by cases hx⟩, bthen HB3W.out HB5.out⟩
        · have hpe := parts_isP (hisP.2 (by omega))
          obtain ⟨pl, hpl2⟩ : ∃ z, (Pp.partsS (txt (P ++ q))).1 = z := ⟨_, rfl⟩
          simp only [hpe, hpl2] at KP
          obtain ⟨X, hX⟩ : ∃ X, T.nd m = X := ⟨_, rfl⟩
          have HX := Lib.hid hX
          have HLG := Lib.hid (show ∀ y, S[j]? = some y → ¬ 300 < (txt (P ++ y.1)).size from fun y hy => by rw [hq] at hy; cases hy; exact hlg)
          obtain ⟨kd, mo, u, gi, ti, ln, An, nn, cn, xs⟩ := X
          obtain ⟨g1, o1, rfl, hnc⟩ := HR1.out.nodeR hmn hX
          have HNC := Lib.hid (fun W (h : Below V.heap.size V W) => hnc W (hbw1.trans (h.mono hbw1.size)))
          have HSJ := Lib.hid (fun W (h : Below V.heap.size V W) => show W.cell? ⟨g, o + j * 2, none⟩ = some (.string s) ∧ W.cell? ⟨g, o + j * 2 + 1, none⟩ = some (.int .i64 (m : Nat)) from by
            obtain ⟨q', m', hq', hcc⟩ := SS.out j hlt
            rw [hq] at hq'
            cases hq'
            rw [hqt]
            exact hcc W (HB.out.trans (h.mono HB.out.size)))
          have HCF := Lib.hid (fun W (h : Below V.heap.size V W) => CF.out W (hbw1.trans (h.mono hbw1.size)))
          have hc1 := HR1.out.cap1
          have hm0 : (0 : Int) ≤ m := by omega
          have hm1 : (m : Int) < n1 := by omega
          have hmt : ((m : Int)).toNat = m := by omega
          generalize txt (P ++ q) = pq at *
          clear hx hc hq hqt hq0 hqp hqN hisP hpl2 hpe hX hnc hlg
          go_upto_region 12 with (first
            | (go_at_call 67; (with_reducible refine (KP.out _).mono ?_); rintro e w5 ⟨vp, rfl, _, hb5⟩; have HB5 := Lib.hid hb5; clear hb5)
            | (go_at_call 45; (with_reducible refine (KJ.out _).mono ?_); rintro e w4 ⟨rfl, rfl⟩))
          have hD : Below w5.heap.size w5 w5.drew := (Below.refl _ _).drew
          have S5 := Lib.hid (fun W (h : Below w5.heap.size w5 W) => show W.cell? ⟨w.heap.size, 0, none⟩ = some (.slice (some ⟨g1, o1, none⟩) n1 c1) ∧ W.cell? ⟨g, o + j * 2 + 1, none⟩ = some (.int .i64 (m : Nat)) ∧ W.cell? ⟨g1, o1 + m * 7, none⟩ = some (.int .i64 kd) ∧ W.cell? ⟨g1, o1 + m * 7 + 1, none⟩ = some (.int .i64 mo) ∧ W.cell? ⟨g1, o1 + m * 7 + 2, none⟩ = some (.int .i64 u) ∧ W.cell? ⟨g1, o1 + m * 7 + 3, none⟩ = some (.int .i64 gi) ∧ W.cell? ⟨g1, o1 + m * 7 + 4, none⟩ = some (.int .i64 ti) ∧ W.cell? ⟨g1, o1 + m * 7 + 5, none⟩ = some (.string ln) ∧ W.cell? ⟨g1, o1 + m * 7 + 6, none⟩ = some (.slice An nn cn) from
            ⟨(HCF.out W (bthen HB5.out h)).1, (HSJ.out W (bthen HB5.out h)).2, HNC.out W (bthen HB5.out h)⟩)
          go_cut [13] (fun v wx => ∃ b, v = .pointer (some ⟨b, 0, none⟩) ∧ Hid (BX wx b 114 (NdC ⟨kd, mo, u, gi, ti, ln, An, nn, cn, xs⟩)) ∧ Hid (Below w5.heap.size w5 wx))
          case first =>
            obtain ⟨i0, i1, i2, i3, i4, i5, i6, i7, i8⟩ := S5.out _ hD
            go_region_held3 (fun W => W.cell? ⟨w.heap.size, 0, none⟩ = some (.slice (some ⟨g1, o1, none⟩) n1 c1) ∧ W.cell? ⟨g, o + j * 2 + 1, none⟩ = some (.int .i64 (m : Nat)) ∧ W.cell? ⟨g1, o1 + m * 7, none⟩ = some (.int .i64 kd) ∧ W.cell? ⟨g1, o1 + m * 7 + 1, none⟩ = some (.int .i64 mo) ∧ W.cell? ⟨g1, o1 + m * 7 + 2, none⟩ = some (.int .i64 u) ∧ W.cell? ⟨g1, o1 + m * 7 + 3, none⟩ = some (.int .i64 gi) ∧ W.cell? ⟨g1, o1 + m * 7 + 4, none⟩ = some (.int .i64 ti) ∧ W.cell? ⟨g1, o1 + m * 7 + 5, none⟩ = some (.string ln) ∧ W.cell? ⟨g1, o1 + m * 7 + 6, none⟩ = some (.slice An nn cn))
              (first | (exact S5.out _ hD) | (exact S5.out _ (hD.alloc hD.size _)) | go_keep) (fail)
            all_goals
              go_wp2
              go_meet
              exact ⟨_, rfl, BX.new w5 _ _, (below_new w5 _).drew⟩
          case rest =>
            obtain ⟨b1, rfl, HX1, HC1⟩ := hcut
            have HVC := Lib.hid (bthen HB5.out HC1.out)
            have S6 := Lib.hid (fun W (h : Below wc.heap.size wc W) => show W.cell? ⟨g, o + j * 2, none⟩ = some (.string s) ∧ W.cell? ⟨b1, 0, none⟩ = some (.int .i64 kd) ∧ W.cell? ⟨b1, 1, none⟩ = some (.int .i64 mo) ∧ W.cell? ⟨b1, 2, none⟩ = some (.int .i64 u) ∧ W.cell? ⟨b1, 3, none⟩ = some (.int .i64 gi) ∧ W.cell? ⟨b1, 4, none⟩ = some (.int .i64 ti) ∧ W.cell? ⟨b1, 5, none⟩ = some (.string ln) ∧ W.cell? ⟨b1, 6, none⟩ = some (.slice An nn cn) from
              ⟨(HSJ.out W (bthen HVC.out h)).1, (HX1.out.later h).cell rfl, (HX1.out.later h).cell rfl, (HX1.out.later h).cell rfl, (HX1.out.later h).cell rfl, (HX1.out.later h).cell rfl, (HX1.out.later h).cell rfl, (HX1.out.later h).cell rfl⟩)
            go_upto_region 13 with (fail)
            go_cut [14] (fun v wx => ∃ b, v = .pointer (some ⟨b, 0, none⟩) ∧ wc.heap.size ≤ b ∧ Hid (BX wx b 156 (MmC (hdM ⟨kd, mo, u, gi, ti, ln, An, nn, cn, xs⟩ S s none))) ∧ Hid (Below wc.heap.size wc wx))
            case first =>
              have hD2 : Below wc.heap.size wc wc.drew := (Below.refl _ _).drew
              obtain ⟨i0, i1, i2, i3, i4, i5, i6, i7⟩ := S6.out _ hD2
              go_region_held3 (fun W => W.cell? ⟨g, o + j * 2, none⟩ = some (.string s) ∧ W.cell? ⟨b1, 0, none⟩ = some (.int .i64 kd) ∧ W.cell? ⟨b1, 1, none⟩ = some (.int .i64 mo) ∧ W.cell? ⟨b1, 2, none⟩ = some (.int .i64 u) ∧ W.cell? ⟨b1, 3, none⟩ = some (.int .i64 gi) ∧ W.cell? ⟨b1, 4, none⟩ = some (.int .i64 ti) ∧ W.cell? ⟨b1, 5, none⟩ = some (.string ln) ∧ W.cell? ⟨b1, 6, none⟩ = some (.slice An nn cn))
                (first | (exact S6.out _ hD2) | (exact S6.out _ (hD2.alloc hD2.size _)) | go_keep) (fail)
              all_goals
                go_wp2
                go_meet
                exact ⟨_, rfl, Nat.le_refl _, BX.new wc _ _, (below_new wc _).drew⟩
            case rest =>
              obtain ⟨b2, rfl, hb2w, HX2, HC2⟩ := hcut
              have hb12 : b1 < b2 := by have := HX1.out.lt; omega
              have hVb2 : V.heap.size ≤ b2 := by have := HVC.out.size; omega
              have hVb1 : True := trivial
              have HY1 := Lib.hid (HX1.out.later HC2.out)
              have HVD := Lib.hid (bthen HVC.out HC2.out)
              have hwj : IntKind.i64.wrap ((j : Int) - 1) = (j : Int) - 1 := wrap_small (by omega) (by omega)
              clear S5 S6 HC1
              go_wp2
              go_loopw [15] (fun k W => ∃ (t : Nat) (oo : Option Nat) (kk : Int), t ≤ j ∧ kk = (t : Int) - 1 ∧ k = .int .i64 kk ∧ Hid (kd = 1 → InvH S m j t oo) ∧ Hid (kd ≠ 1 → oo = none) ∧ Hid (BX W b2 156 (MmC (hdM ⟨kd, mo, u, gi, ti, ln, An, nn, cn, xs⟩ S s oo))) ∧ Hid (BX W b1 114 (NdC ⟨kd, mo, u, gi, ti, ln, An, nn, cn, xs⟩)) ∧ Hid (Below V.heap.size V W)) (fun k _ => ((intOf k) + 1).toNat)
              case atStart => exact ⟨j, none, _, Nat.le_refl _, rfl, rfl, fun _ t y h1 h2 => absurd h1 (by omega), fun _ => rfl, HX2.out, HY1.out, HVD.out⟩
              case round =>
                revert hrel
                generalize wr = Vi
                intro hrel
                obtain ⟨t, oo, kk, htj, hkk, rfl, HI1, HI2, HM2, HM1, HBI⟩ := hrel
                rcases t with _ | t
                · obtain rfl : kk = -1 := by omega
                  have hM : hdM ⟨kd, mo, u, gi, ti, ln, An, nn, cn, xs⟩ S s oo = Nt.mm T S j (q, m) := by
                    rw [← HX.out, HQT.out]
                    by_cases hk1 : kd = 1
                    · exact hd_mm (y := (q, m)) (by rw [HX.out]; exact hk1) (HI1.out hk1) (by have := HN.out; omega)
                    · rw [HI2.out hk1]
                      exact mm_plain (y := (q, m)) (by rw [HX.out]; exact hk1)
                  rw [hM] at HM2
                  have hts := take_snoc (Nt.mms_at (T := T) HQ.out)
                  obtain ⟨M, hMe⟩ : ∃ M, Nt.mm T S j (q, m) = M := ⟨_, rfl⟩
                  rw [hMe] at HM2 hts
                  have HTS := Lib.hid hts
                  have b20 := below_new Vi (.cells (MmC M) 156)
                  have hx20 := BX.new Vi 156 (MmC M)
                  obtain ⟨mp, mk, mm, mu, mg, mt, ml, mA, mn, mc, mx⟩ := M
                  have hown1 := own_keep13 HO.out fun k hk => HBI.out.block k (World.ownsRow.lt HO.out k hk).2
                  have hown2 := own_keep13 hown1 fun k hk => b20.block k (World.ownsRow.lt hown1 k hk).2
                  obtain ⟨v20, w20, hrun, hown, hb20⟩ := app_rmN htl hown2 (rowof_one (C := MmC) (z := 8) (x := ((mp, ⟨mk, mm, mu, mg, mt, ml, mA, mn, mc, mx⟩) : Mm)) hx20) 1 (by omega) (by have := b20.size; have := HBI.out.size; have := HB.out.size; omega)
                  have HRUN := Lib.hid hrun
                  have HOWN := Lib.hid hown
                  have HB20 := Lib.hid ((HB.out.trans (HBI.out.mono HB.out.size)).trans ((b20.mono (by have := HBI.out.size; have := HB.out.size; omega)).trans hb20))
                  have hx2 := HM2.out
                  have z0 := hx2.cell (j := 0) rfl; have z1 := hx2.cell (j := 1) rfl; have z2 := hx2.cell (j := 2) rfl; have z3 := hx2.cell (j := 3) rfl; have z4 := hx2.cell (j := 4) rfl; have z5 := hx2.cell (j := 5) rfl; have z6 := hx2.cell (j := 6) rfl; have z7 := hx2.cell (j := 7) rfl
                  clear hM hts hMe b20 hx20 hown1 hown2 hrun hown hb20 hx2 hkk
                  go_wp2_with (at_builtin; refine Lib.wpList_append_run _ rfl _ _ 84 84 rfl _ _ rfl rfl _ _ HRUN.out ?_)
                  go_roundw
                  case rel =>
                    refine ⟨j + 1, by omega, by go_num, fun t y ht hy => ?_, ?_, HB20.out⟩
                    · by_cases e : t = j
                      · subst e
                        exact HLG.out y hy
                      · exact HSH.out t y (by omega) hy
                    · show World.ownsRow _ _ _ _ _ _ _
                      rw [HTS.out]
                      exact HOWN.out
                  case measure => simp [intOf]; omega
                · obtain rfl : kk = (t : Int) := by omega
                  have ht0 : (0 : Int) ≤ t := by omega
                  have htN : (t : Int) < N := by omega
                  have htt : ((t : Int)).toNat = t := by omega
                  have hwt : IntKind.i64.wrap ((t : Int) - 1) = (t : Int) - 1 := wrap_small (by omega) (by omega)
                  obtain ⟨q', m', hq', hcc⟩ := SS.out t (by omega)
                  have hCC := Lib.hid (fun W (h : Below Vi.heap.size Vi W) => show W.cell? ⟨b1, 0, none⟩ = some (.int .i64 kd) ∧ W.cell? ⟨g, o + t * 2 + 1, none⟩ = some (.int .i64 (m' : Nat)) ∧ W.cell? ⟨g, o + j * 2 + 1, none⟩ = some (.int .i64 (m : Nat)) from
                    ⟨(HM1.out.later h).cell rfl, (hcc W (HB.out.trans ((bthen HBI.out h).mono HB.out.size))).2, (HSJ.out W (bthen HBI.out h)).2⟩)
                  have hCD := Lib.hid (fun W (h : Below w3.heap.size w3 W) => (hcc W h).1)
                  obtain ⟨bb, hbb⟩ : ∃ bb : Bool, bb = decide (kd = 1 ∧ m' = m) := ⟨_, rfl⟩
                  have HBB := Lib.hid hbb
                  have HQ' := Lib.hid hq'
                  clear hcc hq' hkk hbb
                  go_upto_region 17 with (fail)
                  go_cut [91] (fun v wx => v = .bool bb ∧ Hid (Below Vi.heap.size Vi wx))
                  case first =>
                    have hD3 : Below Vi.heap.size Vi Vi.drew := (Below.refl _ _).drew
                    obtain ⟨i0, i1, i2⟩ := hCC.out _ hD3
                    by_cases hk1 : kd = 1
                    · by_cases hm1 : m' = m
                      · have hb1 : bb = true := by rw [HBB.out]; simp [hk1, hm1]
                        subst hb1
                        subst hk1
                        subst hm1
                        go_region_held3 (fun W => W.cell? ⟨b1, 0, none⟩ = some (.int .i64 1) ∧ W.cell? ⟨g, o + t * 2 + 1, none⟩ = some (.int .i64 (m' : Nat)) ∧ W.cell? ⟨g, o + j * 2 + 1, none⟩ = some (.int .i64 (m' : Nat))) (first | (exact hCC.out _ hD3) | go_keep) (fail)
                        all_goals
                          go_wp2
                          go_meet
                          exact ⟨rfl, hD3⟩
                      · have hb1 : bb = false := by rw [HBB.out]; simp [hm1]
                        have hm2 : ((m' : Int) == (m : Int)) = false := by simp; omega
                        subst hb1
                        subst hk1
                        go_region_held3 (fun W => W.cell? ⟨b1, 0, none⟩ = some (.int .i64 1) ∧ W.cell? ⟨g, o + t * 2 + 1, none⟩ = some (.int .i64 (m' : Nat)) ∧ W.cell? ⟨g, o + j * 2 + 1, none⟩ = some (.int .i64 (m : Nat))) (first | (exact hCC.out _ hD3) | go_keep) (fail)
                        all_goals
                          go_wp2
                          go_meet
                          exact ⟨rfl, hD3⟩
                    · have hb1 : bb = false := by rw [HBB.out]; simp [hk1]
                      have hk2 : (kd == 1) = false := by simp [hk1]
                      subst hb1
                      have hk3 : decide (kd = 1) = false := by simp [hk1]
                      clear i0 i1 i2
                      obtain ⟨i0, i1, i2⟩ := hCC.out _ (Below.refl _ Vi)
                      go_quiet (fail)
                      go_wp2
                      go_meet
                      exact ⟨rfl, below_drewN (Below.refl _ Vi) _⟩
                  case rest =>
                    obtain ⟨rfl, HC3⟩ := hcut
                    cases bb with
                    | false =>
                      have hno : ¬ (kd = 1 ∧ m' = m) := by simpa using HBB.out
                      go_wp2
                      go_roundw
                      case rel => exact ⟨t, oo, _, by omega, rfl, by go_num, fun hk => invh_more (HI1.out hk) HQ'.out (fun e => hno ⟨hk, e⟩), HI2.out, HM2.out.later HC3.out, HM1.out.later HC3.out, bthen HBI.out HC3.out⟩
                      case measure => simp [intOf]
                    | true =>
                      obtain ⟨hk1, hm1⟩ : kd = 1 ∧ m' = m := by simpa using HBB.out
                      subst hk1
                      subst hm1
                      have hx2 := HM2.out.later HC3.out
                      have hgb : g < b2 := by
                        have h1 := HSR.out.2 (by omega)
                        obtain ⟨g', o', e', ⟨cs', fz', h2⟩, _⟩ := h1
                        cases e'
                        have h3 := lt_of_some h2
                        have := HB.out.size
                        omega
                      have hgb2 : ¬ g = b2 := by omega
                      have hD4 : Below wc.heap.size wc wc.drew := (Below.refl _ _).drew
                      have S8 := Lib.hid (fun W (h : Oth b2 wc.drew W) => show W.cell? ⟨g, o + t * 2, none⟩ = some (.string (txt q')) from by
                        have h2 := h.below (show V.heap.size ≤ b2 from hVb2) (by have := (bthen (bthen HBI.out HC3.out) hD4).size; omega)
                        exact hCD.out W (HB.out.trans ((bthen (bthen HBI.out HC3.out) hD4).trans h2 |>.mono HB.out.size)))
                      have i0 := S8.out _ (Oth.refl _ _)
                      obtain ⟨k0, l0, A0, n0, c0, hz2⟩ : ∃ (k0 : Int) (l0 : ByteArray) (A0 : Option Addr) (n0 c0 : Nat), BX wc b2 156 #[.string s, .int .i64 k0, .int .i64 mo, .int .i64 u, .int .i64 gi, .int .i64 ti, .string l0, .slice A0 n0 c0] := by cases oo <;> exact ⟨_, _, _, _, _, hx2⟩
                      have z0 := hx2.cell (j := 1) rfl; have z1 := hx2.free 1; have z2 := hx2.cell (j := 6) rfl; have z3 := hx2.free 6; have z4 := hx2.cell (j := 7) rfl; have z5 := hx2.free 7
                      go_upto_region 18 with (fail)
                      have HFIN := Lib.hid (fun W (ho : Oth b2 wc W) (hx : BX W b2 156 #[.string s, .int .i64 2, .int .i64 mo, .int .i64 u, .int .i64 gi, .int .i64 ti, .string (txt q'), .slice none 0 0]) => show Hid (BX W.drew b2 156 (MmC (hdM ⟨1, mo, u, gi, ti, ln, An, nn, cn, xs⟩ S s (some t)))) ∧ Hid (BX W.drew b1 114 (NdC ⟨1, mo, u, gi, ti, ln, An, nn, cn, xs⟩)) ∧ Hid (Below V.heap.size V W.drew) from by
                        refine ⟨?_, ((HM1.out.later HC3.out).oth ho (by omega)).drew, ?_⟩
                        · have e : (S.getD t ([], 0)).1 = q' := by rw [List.getD_eq_getElem?_getD, HQ'.out]; rfl
                          show BX W.drew b2 156 #[.string s, .int .i64 2, .int .i64 mo, .int .i64 u, .int .i64 gi, .int .i64 ti, .string (txt (S.getD t ([], 0)).1), .slice none 0 0]
                          rw [e]
                          exact hx
                        · exact ((bthen HBI.out HC3.out).trans (ho.below hVb2 (by have := (bthen HBI.out HC3.out).size; omega))).drew)
                      go_region_held3 (fun W => W.cell? ⟨g, o + t * 2, none⟩ = some (.string (txt q')))
                        (first | (with_reducible exact S8.out _ (Oth.refl _ _)) | (with_reducible exact S8.out _ ((Oth.refl _ _).setCell _ _)) | (with_reducible exact S8.out _ (((Oth.refl _ _).setCell _ _).setCell _ _)) | (with_reducible exact S8.out _ ((((Oth.refl _ _).setCell _ _).setCell _ _).setCell _ _)) | go_keep) (fail)
                      all_goals
                        go_wp2
                        go_roundw
                        case rel =>
                          refine ⟨t, some t, _, by omega, rfl, by go_num, fun _ => invh_hit (by omega) HQ'.out rfl, fun h => absurd rfl h, ?_⟩
                          first
                            | with_reducible exact HFIN.out _ ((((Oth.refl b2 wc).setCell _ _).setCell _ _).setCell _ _) (set3b15 hz2 _ _ _).1
                            | with_reducible exact HFIN.out _ ((((Oth.refl b2 wc).setCell _ _).setCell _ _).setCell _ _) (set3b15 hz2 _ _ _).2.1
                            | with_reducible exact HFIN.out _ ((((Oth.refl b2 wc).setCell _ _).setCell _ _).setCell _ _) (set3b15 hz2 _ _ _).2.2.1
                            | with_reducible exact HFIN.out _ ((((Oth.refl b2 wc).setCell _ _).setCell _ _).setCell _ _) (set3b15 hz2 _ _ _).2.2.2.1
                            | with_reducible exact HFIN.out _ ((((Oth.refl b2 wc).setCell _ _).setCell _ _).setCell _ _) (set3b15 hz2 _ _ _).2.2.2.2.1
                            | with_reducible exact HFIN.out _ ((((Oth.refl b2 wc).setCell _ _).setCell _ _).setCell _ _) (set3b15 hz2 _ _ _).2.2.2.2.2
                        case measure => simp [intOf]
      · have hlt' : ¬ (j : Int) < N := by omega
        obtain rfl : j = N := by omega
        have hall : (Nt.mms T S).take j = Nt.mms T S := List.take_of_length_le (by omega)
        have ho9 := HO.out
        rw [hall] at ho9
        obtain ⟨Ao, co, rfl, hrow9, _, _⟩ := own_rowof MmC_size ho9 hml
        have hE0 : Nt.ofE T p = 0 := by
          rw [HE.out, if_neg]
          rw [HLONG.out]
          intro h
          obtain ⟨y, hy, hy2⟩ := List.any_eq_true.1 h
          obtain ⟨t, ht, he⟩ := List.getElem_of_mem hy
          have := HSH.out t y (by have := HN.out; omega) (by rw [List.getElem?_eq_getElem ht, he])
          exact this (by simpa using hy2)
        have hofl : Nt.ofL T p = Nt.mms T S := by rw [HOFL.out, if_pos hE0]
        have HE0 := Lib.hid hE0
        have HO0 := Lib.hid hofl
        have HROW := Lib.hid hrow9
        have HML := Lib.hid hml
        clear hall ho9 hrow9 hE0 hofl htl hml
        go_wp2
        go_ret2
        refine ⟨Ao, co, Nt.mms T S, by rw [HE0.out, HML.out]; rfl, HO0.out.symm, ⟨by rw [HML.out]; exact HROW.out.weak, fun x hx => HZD.out _ (HB3.out.trans (HB.out.mono HB3.out.size)) x hx⟩, ?_⟩
        exact bthen HB3W.out HB.out
  · have hE : Nt.ofE T p = Nt.lisE T p := by unfold Nt.ofE; rw [if_pos h0]
    have hofl : Nt.ofL T p = [] := by unfold Nt.ofL; rw [if_neg (by rw [hE]; exact h0)]
    rw [hE, hofl]
    rw [if_neg h0] at kl
    generalize Nt.lisE T p = z at *
    have g : (z != 0) = true := by simp [h0]
    clear h hW hr1 hb1 x1 hE hofl
    go_enter Tryz.func37, Tryz.ntmps37
    go_wp2_with (first
      | (go_at_call 64; (with_reducible refine kl.out.mono ?_); rintro e w2 ⟨vl, rfl, _, hb2⟩; have HB2 := Lib.hid hb2; clear hb2))
    go_ret2
    exact ⟨none, 0, [], rfl, rfl, ⟨⟨rfl, fun h => absurd h (Nat.lt_irrefl 0)⟩, fun x hx => by cases hx⟩, bthen HB1.out HB2.out⟩
end
end Go.Proofs.YthgbncpiehcghaaGreatDoor
