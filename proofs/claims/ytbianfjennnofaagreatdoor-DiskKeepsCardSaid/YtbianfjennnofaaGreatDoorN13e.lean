/- A TREE OF FILES IN MEMORY, THIRD PART: paths that go, and that become others. No Go text is named. -/
import Derived.Test.YtbianfjennnofaaGreatDoorG13m
namespace Go.Proofs.YtbianfjennnofaaGreatDoor
set_option linter.unusedVariables false
open Go Go.RowKit
set_option maxRecDepth 100000
open Nt (Tr Nd WF Ps Path at_ cnt used)
/-- Each Dir's names are g's. -/
def MapsAt (w : World) (K : Nat) (T : Tr) (ad mb : Nat → Nat) (g : Path → ByteArray → Option Nat) : Prop := ∀ d m, (d, m) ∈ T.paths → (T.nd m).kind = 4 → MapAt w (mb m) K (fun s => (g d s).map ad)
section
variable {F : Nat → Prop} {K K' tb : Nat} {w w' w2 w3 : World} {T : Tr} {ad mb : Nat → Nat} {g : Path → ByteArray → Option Nat}
theorem RepP.maps (h : RepP F K w tb T ad mb) : MapsAt w K T ad mb (fun d s => at_ T.paths (d ++ [s])) := fun d m hm hk => (h.map d m hm hk).2
theorem RepP.ds (h : RepP F K w tb T ad mb) : DS w w tb T ad mb T.paths := ⟨h.tree, fun p n hm => (h.node p n hm).1, Keep.refl _ _⟩
theorem RepP.ds_oth (h : RepP F K w tb T ad mb) {q : Path} {m : Nat} (hm : (q, m) ∈ T.paths) (hk : (T.nd m).kind = 4) (ho : Oth (mb m) w w') : DS w' w' tb T ad mb T.paths :=
  ⟨h.tree.oth ho (h.tree_map hm hk), fun p n hn => (h.node p n hn).1.oth ho (h.ne_map hn hm hk), Keep.refl _ _⟩
theorem MapsAt.turn (h : MapsAt w K T ad mb g) (hR : RepP F K' w2 tb T ad mb) (hW : WF T K') {q : Path} {m : Nat} {y : ByteArray} {o : Option Nat} (hm : (q, m) ∈ T.paths) (hk : (T.nd m).kind = 4) {L : Nat} (hL : K ≤ L)
    (hmap : MapAt w' (mb m) L (fun s => if s = y then o.map ad else (g q s).map ad)) (ho : Oth (mb m) w w') : MapsAt w' L T ad mb (fun d s => if d ++ [s] = q ++ [y] then o else g d s) := by
  intro d n hn hkn
  by_cases e : n = m
  · subst e
    obtain rfl : d = q := hW.one _ _ _ hn hm (by rw [hk]; decide)
    refine hmap.cong fun s _ => ?_
    by_cases es : s = y
    · subst es; simp
    · have e3 : ¬ d ++ [s] = d ++ [y] := fun e => es (by simpa using List.append_cancel_left e)
      simp only [if_neg es, if_neg e3]
  · refine (((h d n hn hkn).oth ho fun e2 => e (hR.minj _ _ _ _ hn hm hkn hk e2)).mono hL).cong fun s _ => ?_
    have e3 : ¬ d ++ [s] = q ++ [y] := fun e2 => by
      obtain ⟨rfl, _⟩ := List.append_inj' e2 rfl
      exact e (Nt.nodup_one hW.nodup hn hm)
    simp only [if_neg e3]
theorem MapsAt.ds (h : MapsAt w K T ad mb g) (hD0 : DS w w tb T ad mb T.paths) {R : Ps} (hD : DS w w' tb T ad mb R) : MapsAt w' K T ad mb g := fun d m hm hk => hD.map hD0 (h d m hm hk)
/-- All under a path is gone. -/
theorem RepP.cleared (hR : RepP F K w tb T ad mb) (hW : WF T K) {q : Path} {y : ByteArray} {m : Nat} (hm : (q, m) ∈ T.paths) (hk : (T.nd m).kind = 4)
    (hmap : MapAt w2 (mb m) K (fun s => if s = y then none else (at_ T.paths (q ++ [s])).map ad)) (ho : Oth (mb m) w w2) (hD : DS w2 w3 tb T ad mb (Nt.cut T.paths (q ++ [y]))) : RepP F K w3 tb (T.clr1 (q ++ [y])) ad mb := by
  have hD0 := hR.ds_oth hm hk ho
  have hM := (hR.maps.turn hR hW hm hk (Nat.le_refl _) (o := none) hmap ho).ds hD0 hD
  have old : ∀ {r : Path} {n : Nat}, (r, n) ∈ (T.clr1 (q ++ [y])).paths → (r, n) ∈ T.paths := fun h => (Nt.mem_cut.1 h).1
  refine ⟨hD.tree, hR.ftree, fun r n hr => ⟨hD.node _ _ (old hr), (hR.node _ _ (old hr)).2⟩, fun a b c d h1 h2 e => hR.inj _ _ _ _ (old h1) (old h2) e, ?_, fun a b c d h1 h2 k1 k2 e => hR.minj _ _ _ _ (old h1) (old h2) k1 k2 e⟩
  intro r n hr hkn
  refine ⟨(hR.map _ _ (old hr) hkn).1, (hM r n (old hr) hkn).cong fun s _ => ?_⟩
  have : at_ (T.clr1 (q ++ [y])).paths (r ++ [s]) = if r ++ [s] = q ++ [y] then none else at_ T.paths (r ++ [s]) := by
    show at_ (Nt.cut T.paths (q ++ [y])) (r ++ [s]) = _
    rw [Nt.at_cut]
    by_cases e : r ++ [s] = q ++ [y]
    · rw [if_pos e, if_pos (e ▸ List.prefix_refl _)]
    · rw [if_neg e, if_neg]
      intro h
      rcases List.prefix_concat_iff.1 h with h1 | h1
      · exact e h1.symm
      · exact (Nt.mem_cut.1 hr).2 h1
  rw [this]
/-- A path is another one. -/
theorem RepP.renamed (hR : RepP F K w tb T ad mb) (hW : WF T K) {f t : Path} {n : Nat} (hV : Nt.Mv T f t n)
    (hM : MapsAt w3 (K + 1) T ad mb (fun d s => if d ++ [s] = t then some n else if d ++ [s] = f then none else at_ T.paths (d ++ [s]))) (hD : DS w2 w3 tb T ad mb (Nt.cut T.paths t)) : RepP F (K + 301) w3 tb (T.rn1 f t) ad mb := by
  have hnd := Nt.rn_nodup hW hV
  have hat := hW.rn_at hV hnd
  have live : ∀ {r : Path} {k : Nat}, (r, k) ∈ (T.rn1 f t).paths → ∃ r', (r', k) ∈ T.paths := fun h => by
    rcases (Nt.rn_mem hV).1 h with ⟨s, _, h1⟩ | ⟨h1, _, _⟩ <;> exact ⟨_, h1⟩
  have hc : ∀ k, cnt (T.rn1 f t).paths k = cnt (Nt.cut T.paths t) k := fun k => Nt.cnt_map (R := Nt.cut T.paths t) (f := Nt.mv f t) (fun x => by unfold Nt.mv; split <;> rfl) k
  have hu : ∀ h : Nd → Nat, used (T.rn1 f t).paths h T.nodes = used (Nt.cut T.paths t) h T.nodes := fun h => Nt.used_same h _ fun i _ _ => by rw [hc]
  refine ⟨?_, hR.ftree, ?_, ?_, ?_, ?_⟩
  · have e1 : (T.rn1 f t).usedN = used (Nt.cut T.paths t) (fun _ => 1) T.nodes := hu _
    have e2 : (T.rn1 f t).usedB = used (Nt.cut T.paths t) (fun x => x.xs.length) T.nodes := hu _
    rw [e1, e2]
    exact hD.tree
  · intro r k hr
    obtain ⟨r', hr'⟩ := live hr
    rw [hc]
    exact ⟨hD.node _ _ hr', (hR.node _ _ hr').2⟩
  · intro a b c d h1 h2 e
    obtain ⟨a', ha⟩ := live h1
    obtain ⟨b', hb⟩ := live h2
    exact hR.inj _ _ _ _ ha hb e
  · intro r k hr hkk
    replace hkk : (T.nd k).kind = 4 := hkk
    rcases (Nt.rn_mem hV).1 hr with ⟨u, rfl, h1⟩ | ⟨h1, h2, h3⟩
    · refine ⟨(hR.map _ _ h1 hkk).1, ((hM _ _ h1 hkk).mono (by omega)).cong fun s _ => ?_⟩
      have e1 : f ++ u ++ [s] ≠ t := fun e => hV.ft (by rw [← e, List.append_assoc]; exact List.prefix_append _ _)
      have e2 : f ++ u ++ [s] ≠ f := fun e => by
        have := congrArg List.length e
        simp at this
      simp only [if_neg e1, if_neg e2]
      have e3 : at_ (T.rn1 f t).paths (t ++ u ++ [s]) = at_ T.paths (f ++ u ++ [s]) := by
        rw [hat, if_pos (by rw [List.append_assoc]; exact List.prefix_append _ _), List.append_assoc, List.drop_left, List.append_assoc]
      rw [e3]
    · refine ⟨(hR.map _ _ h1 hkk).1, ((hM _ _ h1 hkk).mono (by omega)).cong fun s _ => ?_⟩
      rw [hat]
      dsimp only
      by_cases e1 : r ++ [s] = t
      · rw [if_pos e1, if_pos (by rw [e1]; exact List.prefix_refl _), ← e1, List.drop_length, List.append_nil, hW.atI.2 hV.here]
      · rw [if_neg e1, if_neg fun h => (List.prefix_concat_iff.1 h).elim (fun h => e1 h.symm) h3]
        by_cases e2 : r ++ [s] = f
        · rw [if_pos e2, if_pos (by rw [e2]; exact List.prefix_refl _)]
        · rw [if_neg e2, if_neg fun h => (List.prefix_concat_iff.1 h).elim (fun h => e2 h.symm) h2]
  · intro a b c d h1 h2 k1 k2 e
    obtain ⟨a', ha⟩ := live h1
    obtain ⟨b', hb⟩ := live h2
    exact hR.minj _ _ _ _ ha hb k1 k2 e
end
end Go.Proofs.YtbianfjennnofaaGreatDoor
