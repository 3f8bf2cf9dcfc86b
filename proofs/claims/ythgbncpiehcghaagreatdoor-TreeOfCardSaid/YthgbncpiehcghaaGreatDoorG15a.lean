/- WALKS OF LAYER 15, FIRST PART: the walk of a tree's paths (yieldUnder, paths). -/
import Derived.Test.YthgbncpiehcghaaGreatDoorN15
import Derived.RangeFuncNested
import Derived.RangeFuncBound
import Derived.Shelf.Abstract
import Derived.Shelf.RegionOpen
import Derived.OwnWalkIn
import Derived.TacticsInMore
import Derived.LoopNIn
import Derived.LoopIn
import Derived.Maps.AppendAt
namespace Go.Proofs.YthgbncpiehcghaaGreatDoor
set_option linter.unusedVariables false
open Go Go.RowKit Go.Maps Go.Shelf
attribute [local go_sem] Oper.semAt_some
set_option maxRecDepth 100000
set_option maxHeartbeats 4000000
open Nt (Tr Nd WF Ps Path at_ cnt used txt Mm)
theorem room_none15 {F : Fence} (hd : F.depth = none) (k : Nat) : F.room k := fun d h => by rw [hd] at h; cases h
theorem roundIn_any15 {F : Fence} (hd : F.depth = none) {m m' : Nat} {P : Program} {l : Nat} {f : FuncId} {tmps : Array Value} {assign body : Code} {w : World} {R : Ending → World → Prop}
    (h : RoundIn F m P l f tmps assign body w R) : RoundIn F m' P l f tmps assign body w R := ⟨h.1, fun c cs _ => h.2 c cs (room_none15 hd _)⟩
theorem yieldAt_any15 {F : Fence} (hd : F.depth = none) {m : Nat} (m' : Nat) {P : Program} {l : Nat} {args : Array Value} {W : World} {R : Ending → World → Prop} (h : YieldAt F m P l args W R) : YieldAt F m' P l args W R := by
  obtain ⟨fn, tmps, assign, body, hy, hR⟩ := h
  exact ⟨fn, tmps, assign, body, hy, roundIn_any15 hd hR⟩
section
variable {F : Nat → Prop} {K tb : Nat} {T : Tr} {ad mb : Nat → Nat}
/-- What List answers of a path that is there. -/
theorem list_txt {w : World} (hW : WF T K) (hK : K ≤ 100000) (hR : RepP F K w tb T ad mb) {P : Path} {n : Nat} (hP : (P, n) ∈ T.paths) :
    Calls Tryz.prog 50 #[.pointer (some ⟨tb, 0, none⟩), .string (txt P)] w fun e w' => ∃ v z, e = .returned (.tuple #[v, z]) ∧ OS w' w.heap.size v (if 300 < (txt P).size then [] else Nt.kids T.paths P) ∧ Below w.heap.size w w' := by
  refine (list_any hW hK hR (txt P) (by have := hW.long P n hP; omega)).mono ?_
  rintro e w' ⟨v, L, rfl, ho, h1, h2, hb⟩
  refine ⟨v, _, rfl, ?_, hb⟩
  have hN := hW.names P n hP
  have hL : L = if 300 < (txt P).size then [] else Nt.kids T.paths P := by
    by_cases hl : 300 < (txt P).size
    · rw [if_pos hl]
      refine h2 ?_
      have hne : P ≠ [] := fun e => by subst e; exact absurd hl (by decide)
      have hpos := Nt.txt_pos hne hN
      have hnp : ¬ Nt.isP (txt P) = true := fun e => by have := (Nt.isP_iff.1 e).1; omega
      have hf : T.find (txt P) = (0, 8) := by unfold Tr.find; rw [if_neg (by omega), if_neg hnp]
      unfold lsE
      rw [hf]
      show (if (8 : Int) ≠ 0 then (8 : Int) else _) ≠ 0
      rw [if_pos (by decide)]
      decide
    · rw [if_neg hl]
      have hps : (txt P).size = 0 ∨ Nt.isP (txt P) = true := by
        by_cases hne : P = []
        · subst hne; exact .inl rfl
        · right
          rw [Nt.isP_iff, Nt.pieces_txt hne hN]
          exact ⟨by omega, hN⟩
      have hnm : Nt.nms (txt P) = P := by
        rcases hps with h | h
        · rw [Nt.nms_zero h]
          by_cases hne : P = []
          · exact hne.symm
          · have := Nt.txt_pos hne hN; omega
        · rw [Nt.nms_isP h]
          by_cases hne : P = []
          · subst hne; exact absurd (Nt.isP_pos h) (by decide)
          · exact Nt.pieces_txt hne hN
      have hf : T.find (txt P) = (n, 0) := hW.find_some.2 ⟨hps, by rw [hnm]; exact hP⟩
      by_cases h4 : (T.nd n).kind = 4
      · have hE : lsE T (txt P) = 0 := by unfold lsE; rw [hf]; simp [h4]
        have hk := h1 hE
        rw [hnm] at hk
        exact hk.one ⟨Nt.kids_rise hW.nodup P, fun s => Nt.mem_kids_at hW.nodup⟩
      · have hE : lsE T (txt P) ≠ 0 := by unfold lsE; rw [hf]; simp [h4]
        rw [h2 hE]
        symm
        refine List.eq_nil_iff_forall_not_mem.2 fun s hs => ?_
        obtain ⟨k, hk⟩ := Nt.mem_kids.1 hs
        obtain ⟨_, _, m, hm, hm4⟩ := hW.up P s k hk
        rw [Nt.nodup_one hW.nodup hP hm] at h4
        exact h4 hm4
  rw [← hL]
  exact ho
theorem RepP.below15 {w w' : World} {n0 : Nat} (h : RepP F K w tb T ad mb) (hF : ∀ k, F k → k < n0) (hb : Below n0 w w') : RepP F K w' tb T ad mb := h.kept fun k hk _ => hb.block k (hF k hk)
theorem flat_take {α β : Type} {L : List α} {j : Nat} {s : α} (G : α → List β) (h : L[j]? = some s) : (L.take (j + 1)).flatMap G = (L.take j).flatMap G ++ G s ∧ ∃ r, L.flatMap G = (L.take j).flatMap G ++ (G s ++ r) := by
  refine ⟨by rw [List.take_add_one, h, Option.toList_some, List.flatMap_append]; simp, ?_⟩
  obtain ⟨hl, he⟩ := List.getElem?_eq_some_iff.1 h
  have e := List.take_append_drop j L
  rw [List.drop_eq_getElem_cons hl, he] at e
  refine ⟨(L.drop (j + 1)).flatMap G, ?_⟩
  conv => lhs; rw [← e]
  rw [List.flatMap_append, List.flatMap_cons]
/-- What a walk under one path answers. -/
def Walked (n0 : Nat) (J Jx : List Path → World → Prop) (LL pre U : List Path) (W : World) (e : Ending) (W' : World) : Prop :=
  (e = .returned (.bool true) ∧ J (pre ++ U) W' ∧ Kp15 n0 W W') ∨ (e = .returned (.bool false) ∧ ∃ q, q <+: LL ∧ Jx q W')
theorem yield_step (hW : WF T K) (hK : K ≤ 100000) {n0 : Nat} (hF : ∀ k, F k → k < n0) (l : Nat) (J Jx : List Path → World → Prop) (hJ : ∀ s A B, Below A.heap.size A B → J s A → J s B) (LL : List Path)
    (hY : ∀ m pre x W1, pre ++ [x] <+: LL → J pre W1 → YieldAt Fence.wide m Tryz.prog l #[.string (txt x)] W1 fun e W' => (e = .returned (.bool true) ∧ J (pre ++ [x]) W' ∧ Kp15 n0 W1 W') ∨ (e = .returned (.bool false) ∧ Jx (pre ++ [x]) W'))
    {P : Path} {n : Nat} (hP : (P, n) ∈ T.paths) (L : List ByteArray) (hL : L = if 300 < (txt P).size then [] else Nt.kids T.paths P) (U : ByteArray → List Path)
    (hU : ∀ m s pre W, s ∈ L → RepP F K W tb T ad mb → n0 ≤ W.heap.size → J pre W → pre ++ U s <+: LL → CallsIn Fence.wide m Tryz.prog 124 #[.pointer (some ⟨tb, 0, none⟩), .string (txt (P ++ [s])), .func (.yield l) #[] #[]] W (Walked n0 J Jx LL pre (U s) W))
    (m' : Nat) (pre : List Path) (W : World) (hR : RepP F K W tb T ad mb) (hn0 : n0 ≤ W.heap.size) (hj : J pre W) (hpre : pre ++ L.flatMap (fun s => (P ++ [s]) :: U s) <+: LL) :
    CallsIn Fence.wide m' Tryz.prog 124 #[.pointer (some ⟨tb, 0, none⟩), .string (txt P), .func (.yield l) #[] #[]] W (Walked n0 J Jx LL pre (L.flatMap (fun s => (P ++ [s]) :: U s)) W) := by
  refine callsIn_wide.2 ((callsIn_wide (n := 9)).1 ?_)
  obtain ⟨m, hm⟩ : ∃ m : Nat, 9 = m := ⟨_, rfl⟩
  rw [hm]
  have h1 : 1 ≤ m := by omega
  clear hm
  have hPs : (txt P).size ≤ 1000000 := by have := hW.long P n hP; omega
  have hPN := hW.names P n hP
  have hLm : ∀ s ∈ L, Pp.Nm s := by
    intro s hs
    rw [hL] at hs
    split at hs
    · cases hs
    · obtain ⟨k, hk⟩ := Nt.mem_kids.1 hs
      exact (hW.up P s k hk).2.1
  have hLl : L.length ≤ 100000 := by
    rw [hL]
    split
    · show 0 ≤ _; omega
    · unfold Nt.kids
      rw [Nt.insAll_len]
      exact Nat.le_trans (List.length_filterMap_le _ _) (Nat.le_trans hW.many hK)
  have kl := list_txt hW hK hR hP
  rw [← hL] at kl
  have KL := Lib.hid kl
  have HR := Lib.hid hR
  have HJ := Lib.hid hJ
  have HU := Lib.hid hU
  have HY := Lib.hid hY
  have HP := Lib.hid hpre
  obtain ⟨p, hp⟩ : ∃ p, txt P = p := ⟨_, rfl⟩
  rw [hp] at KL hPs ⊢
  have HPP := Lib.hid hp
  have J0 := Lib.hid hj
  clear hW hL kl hR hJ hU hY hpre hp hj hP
  refine callsIn_of_wp Tryz.func124 rfl trivial ?_ rfl
  simp only [Tryz.ntmps124, List.size_toArray, List.length_cons, List.length_nil, Nat.reduceAdd, Nat.reduceSub, Array.replicate_succ, Array.replicate_zero, List.push_toArray, List.append_toArray, List.nil_append, List.cons_append]
  gi_wp2_with (refine ⟨trivial, ?_⟩; gi_at_call 50; refine (callsIn_wide.2 KL.out).mono ?_; rintro e w2 ⟨v, z, rfl, ho, hb2⟩; obtain ⟨A2, c2, rfl, hrt, hlc, hcm⟩ := ho.rt)
  have HO := Lib.hid ho
  have HB2 := Lib.hid hb2
  have J2 := Lib.hid (HJ.out _ _ _ hb2 J0.out)
  have K2 := Lib.hid (Kp15.ofBelow hb2 hn0)
  clear ho hb2 hrt
  gi_loopw [20] (fun i wr => ∃ j : Nat, j ≤ L.length ∧ i = .int .i64 j ∧ Hid (J (pre ++ (L.take j).flatMap (fun s => (P ++ [s]) :: U s)) wr) ∧ Hid (Kp15 n0 W wr) ∧ Hid (KeepX RoundObj w2 wr)) (fun i _ => L.length - (intOf i).toNat)
  case atStart => exact ⟨0, Nat.zero_le _, rfl, by show J _ _; rw [List.take_zero, List.flatMap_nil, List.append_nil]; exact J2.out, K2.out, KeepX.refl _ _⟩
  case round =>
    obtain ⟨j, hj, rfl, J3, K3, X3⟩ := hrel
    by_cases hlt : j < L.length
    · have hlt' : (j : Int) < L.length := by omega
      have hO3 : OS wr W.heap.size (.slice A2 L.length c2) L := own_keptX HO.out X3.out round_str
      obtain ⟨A3, c3, e3, hrt3, _, _⟩ := hO3.rt
      cases e3
      obtain ⟨g, s, rfl, hs, hc⟩ := hrt3.at_ hlt
      have hsm : s ∈ L := List.mem_of_getElem? hs
      have hsN := hLm s hsm
      obtain ⟨ht1, r, hr⟩ := flat_take (fun s => (P ++ [s]) :: U s) hs
      have hp1 : (pre ++ (L.take j).flatMap (fun s => (P ++ [s]) :: U s)) ++ [P ++ [s]] <+: LL := by
        refine List.IsPrefix.trans ?_ HP.out
        rw [hr]
        exact ⟨U s ++ r, by simp⟩
      have hp2 : ((pre ++ (L.take j).flatMap (fun s => (P ++ [s]) :: U s)) ++ [P ++ [s]]) ++ U s <+: LL := by
        refine List.IsPrefix.trans ?_ HP.out
        rw [hr]
        exact ⟨r, by simp⟩
      have hnw : n0 ≤ wr.heap.size := Nat.le_trans hn0 K3.out.1.size
      have kj := Lib.hid (fun W => join_any4 p s W (by have := Nt.nm_le hsN; omega) hPs)
      rw [← HPP.out, join_txt hPN hsN, HPP.out] at kj
      obtain ⟨fn, tmps, assign, body, hy, hRd⟩ := HY.out (m - 1) _ (P ++ [s]) wr hp1 J3.out
      have SUB := Lib.hid (fun k W' (hj' : J ((pre ++ (L.take j).flatMap (fun s => (P ++ [s]) :: U s)) ++ [P ++ [s]]) W') (hk' : Kp15 n0 wr W') => HU.out k s _ W' hsm ((HR.out.below15 hF K3.out.1).below15 hF hk'.1) (Nat.le_trans hnw hk'.1.size) hj' hp2)
      obtain ⟨q, hq⟩ : ∃ q, txt (P ++ [s]) = q := ⟨_, rfl⟩
      rw [hq] at kj hy SUB
      have HT := Lib.hid ht1
      have HP1 := Lib.hid hp1
      clear hp1 hp2 ht1 hr hs hO3 hrt3 hq
      gi_wp2_with (first
        | (refine ⟨trivial, ?_⟩; gi_at_call 141; refine (callsIn_wide.2 (kj.out _)).mono ?_; rintro e w' ⟨rfl, rfl⟩)
        | ((try refine ⟨fun h => (by cases h), ?_⟩); refine hRd.mono ?_; clear hRd; rintro e w4 (⟨rfl, hJ4, hk4⟩ | ⟨rfl, hx4⟩))
        | (refine ⟨trivial, ?_⟩; gi_at_call 124; refine (SUB.out _ _ hJ4 hk4).mono ?_; rintro e w5 (⟨rfl, hJ5, hk5⟩ | ⟨rfl, qq, hqq, hx5⟩)))
      · go_roundw
        case rel =>
          refine ⟨j + 1, by omega, by go_num, ?_, K3.out.trans (hk4.trans hk5), X3.out.trans (hk4.2.trans hk5.2)⟩
          show J _ _
          rw [HT.out]
          simpa using hJ5
        case measure => simp [intOf]; omega
      · go_ret
        exact .inr ⟨rfl, qq, hqq, hx5⟩
      · refine ⟨trivial, ?_⟩
        gi_wp2
        go_ret
        exact .inr ⟨rfl, _, HP1.out, hx4⟩
    · have hlt' : ¬ (j : Int) < L.length := by omega
      obtain rfl : j = L.length := by omega
      gi_wp2
      go_ret
      left
      have h3 := J3.out
      rw [List.take_length] at h3
      exact ⟨rfl, h3, K3.out⟩
/-- THE WALK UNDER A PATH. -/
theorem yield_any (hW : WF T K) (hK : K ≤ 100000) {n0 : Nat} (hF : ∀ k, F k → k < n0) (l : Nat) (J Jx : List Path → World → Prop) (hJ : ∀ s A B, Below A.heap.size A B → J s A → J s B) (LL : List Path)
    (hY : ∀ m pre x W1, pre ++ [x] <+: LL → J pre W1 → YieldAt Fence.wide m Tryz.prog l #[.string (txt x)] W1 fun e W' => (e = .returned (.bool true) ∧ J (pre ++ [x]) W' ∧ Kp15 n0 W1 W') ∨ (e = .returned (.bool false) ∧ Jx (pre ++ [x]) W')) :
    ∀ (k : Nat) (P : Path) (n : Nat), (P, n) ∈ T.paths → 302 ≤ k + (txt P).size → ∀ (m' : Nat) (pre : List Path) (W : World), RepP F K W tb T ad mb → n0 ≤ W.heap.size → J pre W → pre ++ Nt.und T.paths k P <+: LL →
      CallsIn Fence.wide m' Tryz.prog 124 #[.pointer (some ⟨tb, 0, none⟩), .string (txt P), .func (.yield l) #[] #[]] W (Walked n0 J Jx LL pre (Nt.und T.paths k P) W)
  | 0, P, n, hP, hk, m', pre, W, hR, hn0, hj, hpre =>
    yield_step hW hK hF l J Jx hJ LL hY hP [] (by rw [if_pos (by omega)]) (fun _ => []) (fun m s pre W hs => by cases hs) m' pre W hR hn0 hj hpre
  | k + 1, P, n, hP, hk, m', pre, W, hR, hn0, hj, hpre => by
    have e : Nt.und T.paths (k + 1) P = (if 300 < (txt P).size then [] else Nt.kids T.paths P).flatMap (fun s => (P ++ [s]) :: Nt.und T.paths k (P ++ [s])) := by
      show (if 300 < (txt P).size then [] else _) = _
      by_cases hl : 300 < (txt P).size
      · rw [if_pos hl, if_pos hl, List.flatMap_nil]
      · rw [if_neg hl, if_neg hl]
    rw [e] at hpre ⊢
    refine yield_step hW hK hF l J Jx hJ LL hY hP _ rfl (fun s => Nt.und T.paths k (P ++ [s])) (fun m s pre' W' hs hR' hn' hj' hp' => ?_) m' pre W hR hn0 hj hpre
    have hs2 : s ∈ Nt.kids T.paths P := by
      split at hs
      · cases hs
      · exact hs
    obtain ⟨n2, hn2⟩ := Nt.mem_kids.1 hs2
    have := Nt.kid_size (P := P) (hW.up P s n2 hn2).2.1
    exact yield_any hW hK hF l J Jx hJ LL hY k (P ++ [s]) n2 hn2 (by omega) m pre' W' hR' hn' hj' hp'
/-- What a walk's boxes hold. -/
def PathsV (b : Nat) : Value := .func (.func 123) #[] #[.pointer (some ⟨b, 0, none⟩), .pointer (some ⟨b + 1, 0, none⟩)]
theorem paths_any (w : World) (p : ByteArray) (a : Nat) :
    Calls Tryz.prog 84 #[.pointer (some ⟨a, 0, none⟩), .string p] w fun e w' => e = .returned (PathsV w.heap.size) ∧ Boxed w' w.heap.size 24 (.pointer (some ⟨a, 0, none⟩)) ∧ Boxed w' (w.heap.size + 1) 9 (.string p) ∧ Below w.heap.size w w' := by
  have x1 := Boxed.new w 24 (.pointer (some ⟨a, 0, none⟩))
  have x2 := Boxed.new (w.alloc (.cells #[.pointer (some ⟨a, 0, none⟩)] 24)) 9 (.string p)
  rw [World.size_alloc] at x2
  go_enter Tryz.func84, Tryz.ntmps84
  go_wp2
  go_ret
  exact ⟨rfl, x1.alloc _, x2, ((Below.refl _ w).alloc (Nat.le_refl _) _).alloc (by simp) _⟩
/-- THE ITERATOR's CONTRACT. -/
theorem paths_gives (hW : WF T K) (hK : K ≤ 100000) {n0 b : Nat} (hF : ∀ k, F k → k < n0) {P : Path} {n k : Nat} (hP : (P, n) ∈ T.paths) (hk : 302 ≤ k + (txt P).size) (w0 : World) (hR : RepP F K w0 tb T ad mb) (hn0 : n0 ≤ w0.heap.size)
    (hb1 : Boxed w0 b 24 (.pointer (some ⟨tb, 0, none⟩))) (hb2 : Boxed w0 (b + 1) 9 (.string (txt P))) (m : Nat) :
    GivesK Fence.wide m Tryz.prog 123 #[.pointer (some ⟨b, 0, none⟩), .pointer (some ⟨b + 1, 0, none⟩)] (fun x : Path => #[.string (txt x)]) (Kp15 n0) (Nt.und T.paths k P) w0 := by
  intro l J Jx W hbw hJ hj0 hY
  refine callsIn_wide.2 ((callsIn_wide (n := 9)).1 ?_)
  obtain ⟨m9, hm9⟩ : ∃ m : Nat, 9 = m := ⟨_, rfl⟩
  rw [hm9]
  have h1 : 1 ≤ m9 := by omega
  clear hm9
  have c1 : W.cell? ⟨b, 0, none⟩ = some (.pointer (some ⟨tb, 0, none⟩)) := (hbw.cell (p := ⟨b, 0, none⟩) hb1.lt).trans hb1.cell
  have c2 : W.cell? ⟨b + 1, 0, none⟩ = some (.string (txt P)) := (hbw.cell (p := ⟨b + 1, 0, none⟩) hb2.lt).trans hb2.cell
  have ky := Lib.hid (fun m' => yield_any hW hK hF l J Jx hJ (Nt.und T.paths k P) (fun m2 pre x W1 h2 h3 => yieldAt_any15 rfl m2 (hY pre x W1 h2 h3)) k P n hP hk m' [] W (hR.below15 hF (hbw.mono hn0)) (Nat.le_trans hn0 hbw.size) hj0 (by rw [List.nil_append]; exact List.prefix_refl _))
  obtain ⟨U, hU⟩ : ∃ U, Nt.und T.paths k P = U := ⟨_, rfl⟩
  obtain ⟨p, hp⟩ : ∃ p, txt P = p := ⟨_, rfl⟩
  rw [hU, hp] at ky
  rw [hp] at c2
  rw [hU]
  clear hY hR hb1 hb2 hbw hU hp hJ hP hW
  refine callsIn_of_wp Tryz.func123 rfl trivial ?_ rfl
  simp only [Tryz.ntmps123, List.size_toArray, List.length_cons, List.length_nil, Nat.reduceAdd, Nat.reduceSub, Array.replicate_succ, Array.replicate_zero, List.push_toArray, List.append_toArray, List.nil_append, List.cons_append]
  gi_wp2_with (refine ⟨trivial, ?_⟩; gi_at_call 124; refine (ky.out _).mono ?_; rintro e w5 (⟨rfl, hJ5, hk5⟩ | ⟨rfl, qq, hqq, hx5⟩))
  · go_end0
    exact ⟨⟨_, rfl⟩, .inl (by simpa using hJ5)⟩
  · go_end0
    exact ⟨⟨_, rfl⟩, .inr ⟨qq, hqq, hx5⟩⟩
end
end Go.Proofs.YthgbncpiehcghaaGreatDoor
