/- A TREE OF FILES IN MEMORY, SECOND PART: what each operation makes of it. No Go text is named. -/
import Derived.Test.YtbianfjennnofaaGreatDoorG13g
import Derived.Test.YtbianfjennnofaaGreatDoorGn4
namespace Go.Proofs.YtbianfjennnofaaGreatDoor
set_option linter.unusedVariables false
open Go Go.RowKit
set_option maxRecDepth 100000
open Nt (Tr Nd WF Ps Path at_ cnt used)
section
variable {F : Nat → Prop} {K tb : Nat} {w w' : World} {T : Tr} {ad mb : Nat → Nat}
theorem RepP.ne_tree (h : RepP F K w tb T ad mb) {p : Path} {n : Nat} (hm : (p, n) ∈ T.paths) : ad n ≠ tb := bx_ne (h.node p n hm).1 h.tree (by decide)
theorem RepP.ne_map (h : RepP F K w tb T ad mb) {p q : Path} {n m : Nat} (hn : (p, n) ∈ T.paths) (hm : (q, m) ∈ T.paths) (hk : (T.nd m).kind = 4) : ad n ≠ mb m := (h.map q m hm hk).2.ne_bx (h.node p n hn).1
theorem RepP.tree_map (h : RepP F K w tb T ad mb) {q : Path} {m : Nat} (hm : (q, m) ∈ T.paths) (hk : (T.nd m).kind = 4) : tb ≠ mb m := (h.map q m hm hk).2.ne_bx h.tree
/-- A new node. -/
theorem RepP.made (hR : RepP F K w tb T ad mb) (hW : WF T K) {p : ByteArray} (hf : T.fresh p = 0) {x : Nd} (hx : x.ok) {q : Path} {y : ByteArray} {m : Nat} (e1 : Pp.pieces p = q ++ [y]) (hm : (q, m) ∈ T.paths) (hk : (T.nd m).kind = 4)
    {c b : Nat} (hcw : w.heap.size ≤ c) (hbw : w.heap.size ≤ b) (hmap : MapAt w' (mb m) (K + 1) (fun s => if s = y then some c else (at_ T.paths (q ++ [s])).map ad))
    (hnode : BX w' c 91 (NC x (if x.kind = 4 then some b else none) (1 : Nat))) (hnew : x.kind = 4 → MapAt w' b 0 (fun _ => none))
    (htree : BX w' tb 95 (TC T (ad 0) (T.usedN + 1) (T.usedB + x.xs.length)))
    (hs : ∀ k, k < w.heap.size → k ≠ mb m → k ≠ tb → w'.heap[k]? = w.heap[k]?) (hsz : w.heap.size ≤ w'.heap.size) :
    RepP (Grow F w w') (K + 301) w' tb (T.mk1 p x) (fun n => if n = T.nodes.length then c else ad n) (fun n => if n = T.nodes.length then b else mb n) := by
  obtain ⟨hpar, hat⟩ := hW.fresh_ok hf
  have hL := hW.pos
  have mem : ∀ {r : Path} {n : Nat}, (r, n) ∈ (T.mk1 p x).paths ↔ (r, n) ∈ T.paths ∨ (r = q ++ [y] ∧ n = T.nodes.length) := fun {r n} => by
    show (r, n) ∈ T.paths ++ [(Pp.pieces p, T.nodes.length)] ↔ _
    rw [List.mem_append, e1]
    simp
  have old : ∀ {r : Path} {n : Nat}, (r, n) ∈ T.paths → n ≠ T.nodes.length := fun {r n} hn => by have := hW.lt _ _ hn; omega
  have ond : ∀ {r : Path} {n : Nat}, (r, n) ∈ T.paths → (T.mk1 p x).nd n = T.nd n := fun {r n} hn => by rw [Nt.nd_mk1, if_neg (old hn)]
  have oc : ∀ {r : Path} {n : Nat}, (r, n) ∈ T.paths → cnt (T.mk1 p x).paths n = cnt T.paths n := fun {r n} hn => by
    show cnt (T.paths ++ [(_, T.nodes.length)]) n = _
    rw [Nt.cnt_app, Nt.cnt_one, if_neg fun e => old hn e.symm, Nat.add_zero]
  have onode : ∀ {r : Path} {n : Nat}, (r, n) ∈ T.paths → w'.heap[ad n]? = w.heap[ad n]? := fun {r n} hn => hs _ (hR.node _ _ hn).1.lt (hR.ne_map hn hm hk) (hR.ne_tree hn)
  have hat' : ∀ r, at_ (T.mk1 p x).paths r = if r = q ++ [y] then some T.nodes.length else at_ T.paths r := fun r => by
    show at_ (T.paths ++ [(Pp.pieces p, T.nodes.length)]) r = _
    rw [Nt.at_snoc hat, e1]
  have hnl : ∀ r n, at_ T.paths r = some n → n ≠ T.nodes.length := fun r n h => old (Nt.at_mem h)
  have hnF : ∀ {k : Nat}, w.heap.size ≤ k → k < w'.heap.size → Grow F w w' k := fun h1 h2 => .inr ⟨h1, h2⟩
  refine ⟨?_, .inl hR.ftree, ?_, ?_, ?_, ?_⟩
  · have e2 : (T.mk1 p x).usedN = T.usedN + 1 := Nt.used_new _ _ _ _ hL hW.lt
    have e3 : (T.mk1 p x).usedB = T.usedB + x.xs.length := Nt.used_new _ _ _ _ hL hW.lt
    rw [e2, e3, if_neg (by omega)]
    exact htree
  · intro r n hr
    rcases mem.1 hr with h1 | ⟨rfl, rfl⟩
    · rw [if_neg (old h1), ond h1, oc h1]
      have : mbv (T.mk1 p x) (fun n => if n = T.nodes.length then b else mb n) n = mbv T mb n := by unfold mbv; rw [ond h1]; simp only [if_neg (old h1)]
      rw [this]
      exact ⟨(onode h1).trans (hR.node _ _ h1).1, .inl (hR.node _ _ h1).2⟩
    · rw [if_pos rfl, Nt.nd_mk1, if_pos rfl]
      have e2 : mbv (T.mk1 p x) (fun n => if n = T.nodes.length then b else mb n) T.nodes.length = if x.kind = 4 then some b else none := by unfold mbv; rw [Nt.nd_mk1, if_pos rfl]; simp only [if_pos]
      have e3 : cnt (T.mk1 p x).paths T.nodes.length = 1 := by
        show cnt (T.paths ++ [(_, T.nodes.length)]) _ = 1
        rw [Nt.cnt_app, Nt.cnt_one, if_pos rfl]
        have : ¬ 0 < cnt T.paths T.nodes.length := fun h => by
          obtain ⟨r, hr⟩ := Nt.cnt_pos.1 h
          exact old hr rfl
        omega
      rw [e2, e3]
      exact ⟨hnode, hnF hcw hnode.lt⟩
  · intro r1 r2 n1 n2 h1 h2 e
    rcases mem.1 h1 with a1 | ⟨_, rfl⟩ <;> rcases mem.1 h2 with a2 | ⟨_, rfl⟩
    · simp only [if_neg (old a1), if_neg (old a2)] at e
      exact hR.inj _ _ _ _ a1 a2 e
    · simp only [if_neg (old a1), if_pos] at e
      have := (hR.node _ _ a1).1.lt
      omega
    · simp only [if_neg (old a2), if_pos] at e
      have := (hR.node _ _ a2).1.lt
      omega
    · rfl
  · intro r n hr hk4
    rcases mem.1 hr with h1 | ⟨rfl, rfl⟩
    · rw [ond h1] at hk4
      rw [if_neg (old h1)]
      refine ⟨.inl (hR.map _ _ h1 hk4).1, ?_⟩
      by_cases e : n = m
      · subst e
        have hrq : r = q := hW.one _ _ _ h1 hm (by rw [hk]; decide)
        subst hrq
        refine (hmap.mono (by omega)).cong fun s _ => ?_
        rw [hat' (r ++ [s])]
        by_cases es : s = y
        · subst es; simp
        · rw [if_neg es, if_neg fun e => es (by simpa using List.append_cancel_left e)]
          cases ha : at_ T.paths (r ++ [s]) with
          | none => rfl
          | some j => simp only [Option.map_some]; rw [if_neg (hnl _ _ ha)]
      · have hsame : w'.heap[mb n]? = w.heap[mb n]? := hs _ (hR.map _ _ h1 hk4).2.lt (fun e2 => e (hR.minj _ _ _ _ h1 hm hk4 hk e2)) (fun e2 => hR.tree_map h1 hk4 e2.symm)
        refine (((hR.map _ _ h1 hk4).2.of_block hsame).mono (by omega)).cong fun s _ => ?_
        rw [hat' (r ++ [s])]
        have hne : r ++ [s] ≠ q ++ [y] := fun e2 => by
          obtain ⟨e3, _⟩ := List.append_inj' e2 rfl
          subst e3
          exact e (Nt.nodup_one hW.nodup h1 hm)
        rw [if_neg hne]
        cases ha : at_ T.paths (r ++ [s]) with
        | none => rfl
        | some j => simp only [Option.map_some]; rw [if_neg (hnl _ _ ha)]
    · rw [Nt.nd_mk1, if_pos rfl] at hk4
      rw [if_pos rfl]
      refine ⟨hnF hbw (hnew hk4).lt, ((hnew hk4).mono (by omega)).cong fun s _ => ?_⟩
      rw [hat' (q ++ [y] ++ [s])]
      have : at_ T.paths (q ++ [y] ++ [s]) = none := by
        cases ha : at_ T.paths (q ++ [y] ++ [s]) with
        | none => rfl
        | some j =>
          obtain ⟨_, _, m', h5, _⟩ := hW.up _ _ _ (Nt.at_mem ha)
          rw [e1] at hat
          exact absurd h5 (Nt.at_none hat m')
      rw [if_neg (by simp), this]
      rfl
  · intro r1 r2 n1 n2 h1 h2 k1 k2 e
    rcases mem.1 h1 with a1 | ⟨_, rfl⟩ <;> rcases mem.1 h2 with a2 | ⟨_, rfl⟩
    · rw [ond a1] at k1
      rw [ond a2] at k2
      simp only [if_neg (old a1), if_neg (old a2)] at e
      exact hR.minj _ _ _ _ a1 a2 k1 k2 e
    · rw [ond a1] at k1
      simp only [if_neg (old a1), if_pos] at e
      have := (hR.map _ _ a1 k1).2.lt
      omega
    · rw [ond a2] at k2
      simp only [if_neg (old a2), if_pos] at e
      have := (hR.map _ _ a2 k2).2.lt
      omega
    · rfl
/-- A path more. -/
theorem RepP.linked (hR : RepP F K w tb T ad mb) (hW : WF T K) {p : ByteArray} (hf : T.fresh p = 0) {q r0 : Path} {y : ByteArray} {m j : Nat} (e1 : Pp.pieces p = q ++ [y]) (hm : (q, m) ∈ T.paths) (hk : (T.nd m).kind = 4)
    (hj : (r0, j) ∈ T.paths) (hk1 : (T.nd j).kind = 1)
    (hmap : MapAt w' (mb m) (K + 1) (fun s => if s = y then some (ad j) else (at_ T.paths (q ++ [s])).map ad))
    (hnode : BX w' (ad j) 91 (NC (T.nd j) none (cnt T.paths j + 1 : Nat)))
    (hs : ∀ k, k < w.heap.size → k ≠ mb m → k ≠ ad j → w'.heap[k]? = w.heap[k]?) :
    RepP F (K + 301) w' tb (T.lnk1 p j) ad mb := by
  obtain ⟨hpar, hat⟩ := hW.fresh_ok hf
  have mem : ∀ {r : Path} {n : Nat}, (r, n) ∈ (T.lnk1 p j).paths ↔ (r, n) ∈ T.paths ∨ (r = q ++ [y] ∧ n = j) := fun {r n} => by
    show (r, n) ∈ T.paths ++ [(Pp.pieces p, j)] ↔ _
    rw [List.mem_append, e1]
    simp
  have live : ∀ {r : Path} {n : Nat}, (r, n) ∈ (T.lnk1 p j).paths → ∃ r', (r', n) ∈ T.paths := fun {r n} h => (mem.1 h).elim (fun h => ⟨_, h⟩) fun h => ⟨r0, h.2 ▸ hj⟩
  have hat' : ∀ r, at_ (T.lnk1 p j).paths r = if r = q ++ [y] then some j else at_ T.paths r := fun r => by
    show at_ (T.paths ++ [(Pp.pieces p, j)]) r = _
    rw [Nt.at_snoc hat, e1]
  have oc : ∀ n, cnt (T.lnk1 p j).paths n = cnt T.paths n + (if j = n then 1 else 0) := fun n => by
    show cnt (T.paths ++ [(_, j)]) n = _
    rw [Nt.cnt_app, Nt.cnt_one]
  have usame : ∀ f : Nd → Nat, used (T.lnk1 p j).paths f T.nodes = used T.paths f T.nodes := fun f => Nt.used_same f T.nodes fun i _ _ => by
    rw [oc]
    by_cases e : j = i
    · subst e
      have := Nt.cnt_pos.2 ⟨_, hj⟩
      omega
    · rw [if_neg e]
      omega
  refine ⟨?_, hR.ftree, ?_, ?_, ?_, ?_⟩
  · have e2 : (T.lnk1 p j).usedN = T.usedN := usame _
    have e3 : (T.lnk1 p j).usedB = T.usedB := usame _
    rw [e2, e3]
    exact (hs _ hR.tree.lt (hR.tree_map hm hk) fun e => hR.ne_tree hj e.symm).trans hR.tree
  · intro r n hr
    obtain ⟨r', hr'⟩ := live hr
    refine ⟨?_, (hR.node _ _ hr').2⟩
    rw [oc]
    by_cases e : j = n
    · subst e
      rw [if_pos rfl]
      have : mbv (T.lnk1 p j) mb j = none := by
        show (if (T.nd j).kind = 4 then some (mb j) else none) = none
        rw [if_neg (by omega)]
      rw [this]
      exact hnode
    · rw [if_neg e]
      exact (hs _ (hR.node _ _ hr').1.lt (hR.ne_map hr' hm hk) (fun e2 => e (hR.inj _ _ _ _ hr' hj e2).symm)).trans (hR.node _ _ hr').1
  · intro r1 r2 n1 n2 h1 h2 e
    obtain ⟨a, ha⟩ := live h1
    obtain ⟨b, hb⟩ := live h2
    exact hR.inj _ _ _ _ ha hb e
  · intro r n hr hk4
    replace hk4 : (T.nd n).kind = 4 := hk4
    rcases mem.1 hr with h1 | ⟨_, rfl⟩
    · refine ⟨(hR.map _ _ h1 hk4).1, ?_⟩
      by_cases e : n = m
      · subst e
        have hrq : r = q := hW.one _ _ _ h1 hm (by rw [hk]; decide)
        subst hrq
        refine (hmap.mono (by omega)).cong fun s _ => ?_
        rw [hat' (r ++ [s])]
        by_cases es : s = y
        · subst es; simp
        · rw [if_neg es, if_neg fun e => es (by simpa using List.append_cancel_left e)]
      · have hsame : w'.heap[mb n]? = w.heap[mb n]? := hs _ (hR.map _ _ h1 hk4).2.lt (fun e2 => e (hR.minj _ _ _ _ h1 hm hk4 hk e2)) (fun e2 => hR.ne_map hj h1 hk4 e2.symm)
        refine (((hR.map _ _ h1 hk4).2.of_block hsame).mono (by omega)).cong fun s _ => ?_
        rw [hat' (r ++ [s])]
        have hne : r ++ [s] ≠ q ++ [y] := fun e2 => by
          obtain ⟨e3, _⟩ := List.append_inj' e2 rfl
          subst e3
          exact e (Nt.nodup_one hW.nodup h1 hm)
        rw [if_neg hne]
    · omega
  · intro r1 r2 n1 n2 h1 h2 k1 k2 e
    obtain ⟨a, ha⟩ := live h1
    obtain ⟨b, hb⟩ := live h2
    exact hR.minj _ _ _ _ ha hb k1 k2 e
/-- Another node in a node's place. -/
theorem RepP.withed (hR : RepP F K w tb T ad mb) (hW : WF T K) {r0 : Path} {j : Nat} {x : Nd} (hj : (r0, j) ∈ T.paths) (hk : x.kind = (T.nd j).kind)
    (hnode : BX w' (ad j) 91 (NC x (mbv T mb j) (cnt T.paths j : Nat))) (htree : BX w' tb 95 (TC T (ad 0) (T.with_ j x).usedN (T.with_ j x).usedB))
    (hs : ∀ k, k < w.heap.size → k ≠ ad j → k ≠ tb → w'.heap[k]? = w.heap[k]?) : RepP F K w' tb (T.with_ j x) ad mb := by
  have hjl := hW.lt _ _ hj
  have hkk : ∀ n, ((T.with_ j x).nd n).kind = (T.nd n).kind := fun n => by
    rw [Nt.nd_with hjl]
    by_cases e : n = j
    · subst e; rw [if_pos rfl, hk]
    · rw [if_neg e]
  refine ⟨htree, hR.ftree, ?_, hR.inj, ?_, ?_⟩
  · intro r n hr
    replace hr : (r, n) ∈ T.paths := hr
    refine ⟨?_, (hR.node _ _ hr).2⟩
    have hmv : mbv (T.with_ j x) mb n = mbv T mb n := by unfold mbv; rw [hkk]
    rw [hmv, Nt.nd_with hjl]
    by_cases e : n = j
    · subst e
      rw [if_pos rfl]
      exact hnode
    · rw [if_neg e]
      exact (hs _ (hR.node _ _ hr).1.lt (fun e2 => e (hR.inj _ _ _ _ hr hj e2)) (hR.ne_tree hr)).trans (hR.node _ _ hr).1
  · intro r n hr hk4
    rw [hkk] at hk4
    replace hr : (r, n) ∈ T.paths := hr
    exact ⟨(hR.map _ _ hr hk4).1, (hR.map _ _ hr hk4).2.of_block (hs _ (hR.map _ _ hr hk4).2.lt (fun e2 => hR.ne_map hj hr hk4 e2.symm) (fun e2 => hR.tree_map hr hk4 e2.symm))⟩
  · intro r1 r2 n1 n2 h1 h2 k1 k2 e
    rw [hkk] at k1 k2
    exact hR.minj _ _ _ _ h1 h2 k1 k2 e
end
end Go.Proofs.YtbianfjennnofaaGreatDoor
