/- BYTES OWNED AND READ: what an append, a copy, a later world make of them. Plain theorems; no Go text is named. -/
import Derived.Test.YtjiafpmcibokbaaBase
import Derived.Deep.AppendLies
import Derived.Laws.CopyOwn
import Derived.Lib.SliceRun
namespace Go.Proofs.Ytjiafpmcibokbaa
open Go.RowKit
set_option linter.unusedVariables false
theorem RB.news {w : World} {B b o n : Nat} {xs : List Int} (h : RB w B (some ⟨b, o, none⟩) n xs) : ∀ j u, (xs.map (Value.int .u8))[j]? = some u → w.cell? ((⟨b, o, none⟩ : Addr).add j) = some u := by
  intro j u hj
  have hjn : j < xs.length := by
    have := (List.getElem?_eq_some_iff.1 hj).1
    simpa using this
  rw [Addr.add_lit, h.at_' (by rw [← h.1]; exact hjn)]
  rw [← hj]
  simp [List.getD, hjn]
theorem u8_cells (xs : List Int) : ∀ u ∈ xs.map (Value.int .u8), u.oneCell' = true := by
  intro u hu
  obtain ⟨x, _, rfl⟩ := List.mem_map.1 hu
  rfl
theorem OBn.of {w : World} {base n : Nat} {e : TypeId} {v : Value} {xs : List Int} (h : w.ownsRow base e 1 v n (xs.map (Value.int .u8))) : OBn w base e v n xs := h
theorem OBn.shape {w : World} {base n : Nat} {e : TypeId} {v : Value} {xs : List Int} (h : OBn w base e v n xs) (hn : 0 < n) :
    ∃ g c cur, v = .slice (some ⟨g, 0, none⟩) n c ∧ base ≤ g ∧ g < w.heap.size ∧ w.heap[g]? = some (.cells cur e (0, 0)) ∧ n ≤ c ∧ c ≤ maxLen ∧ cur.size = c ∧ cur.toList.take n = xs.map (Value.int .u8) := by
  have hh := h
  rcases h.2 with ⟨_, h0⟩ | ⟨g, cap, cur, rfl, hb, hg, hnc, hcm, hcs, htake⟩
  · omega
  · exact ⟨g, cap, cur, rfl, hb, (World.ownsRow.lt hh g rfl).2, hg, hnc, hcm, by simpa using hcs, by simpa using htake⟩
theorem OBn.below {w w' : World} {base n B : Nat} {e : TypeId} {v : Value} {xs : List Int} (h : OBn w base e v n xs) (hb : Below B w w') (hB : ∀ k, v.ownBlock = some k → k < B) : OBn w' base e v n xs := by
  refine ⟨h.1, ?_⟩
  rcases h.2 with hl | ⟨g, cap, cur, rfl, hbg, hg, h1, h2, h3, h4⟩
  · exact .inl hl
  · exact .inr ⟨g, cap, cur, rfl, hbg, (hb.block g (hB g rfl)).trans hg, h1, h2, h3, h4⟩
theorem OBn.later {w w' : World} {base n : Nat} {e : TypeId} {v : Value} {xs : List Int} (h : OBn w base e v n xs) (hb : Below w.heap.size w w') : OBn w' base e v n xs :=
  h.below hb fun k hk => (World.ownsRow.lt h k hk).2
theorem OBn.alloc {w : World} {base n : Nat} {e : TypeId} {v : Value} {xs : List Int} (h : OBn w base e v n xs) (o : Obj) : OBn (w.alloc o) base e v n xs := World.ownsRow.alloc h o
theorem OBn.spliced {w : World} {base g n c off : Nat} {e : TypeId} {l : List Value} {xs cs : List Int} (hg : w.heap[g]? = some (.cells (splice l off (cs.map (Value.int .u8))).toArray e (0, 0))) (hl : l.length = c) (hn : n ≤ c) (hcm : c ≤ maxLen) (hb : base ≤ g)
    (htk : l.take n = xs.map (Value.int .u8)) (hxl : xs.length = n) (hfit : off + cs.length ≤ n) : OBn w base e (.slice (some ⟨g, 0, none⟩) n c) n (xs.take off ++ cs ++ xs.drop (off + cs.length)) := by
  refine ⟨by simp; omega, .inr ⟨g, c, _, rfl, hb, hg, hn, hcm, ?_, ?_⟩⟩
  · simp only [List.size_toArray]
    rw [length_splice _ _ _ (by simp; omega)]
    omega
  · simp only [Nat.mul_one, splice, List.map_append, List.append_assoc]
    have e1 : l.take off = (xs.map (Value.int .u8)).take off := by rw [← htk, List.take_take, Nat.min_eq_left (by omega)]
    have e2 : (l.drop (off + cs.length)).take (n - (off + cs.length)) = (xs.map (Value.int .u8)).drop (off + cs.length) := by rw [← htk, List.drop_take]
    rw [List.take_append, List.take_append]
    have l1 : (l.take off).length = off := by simp; omega
    have l2 : (cs.map (Value.int .u8)).length = cs.length := by simp
    rw [l1, l2, List.take_of_length_le (l := l.take off) (by omega), List.take_of_length_le (l := cs.map (Value.int .u8)) (by omega), Nat.sub_sub, e1, List.map_take, List.map_drop, e2]
theorem RB.front {w : World} {B b o n : Nat} {xs : List Int} (h : RB w B (some ⟨b, o, none⟩) n xs) {k : Nat} (hk : k ≤ n) : RB w B (some ⟨b, o, none⟩) k (xs.take k) := by
  refine ⟨by rw [List.length_take, h.1]; omega, fun hk0 => ?_⟩
  obtain ⟨_, _, e, hb, hc⟩ := h.2 (by omega)
  cases e
  refine ⟨b, o, rfl, hb, fun j hj => ?_⟩
  rw [hc j (by omega)]
  simp [List.getD, hj]
theorem RB.back {w : World} {B b o n : Nat} {xs : List Int} (h : RB w B (some ⟨b, o, none⟩) n xs) {k : Nat} (hk : k ≤ n) : RB w B (some ⟨b, o + k, none⟩) (n - k) (xs.drop k) := by
  refine ⟨by rw [List.length_drop, h.1], fun hk0 => ?_⟩
  obtain ⟨_, _, e, hb, hc⟩ := h.2 (by omega)
  cases e
  refine ⟨b, o + k, rfl, hb, fun j hj => ?_⟩
  rw [show o + k + j = o + (k + j) from by omega, hc (k + j) (by omega)]
  simp [List.getD, List.getElem?_drop]
theorem below_app {w w1 w2 : World} {B size n : Nat} {e : TypeId} {v : Value} {xs : List Value} (hb : Below B w w1) (hB : B ≤ w.heap.size) (ho : w1.ownsRow B e size v n xs) (hg : w1.grownBy w2 v.ownBlock) : Below B w w2 :=
  hb.grown hg (by have := hb.size; omega) fun k hk => (World.ownsRow.lt ho k hk).1
theorem RB.pre {w : World} {B n : Nat} {A : Option Addr} {xs : List Int} (h : RB w B A n xs) {k : Nat} (hk : k ≤ n) : RB w B A k (xs.take k) := by
  refine ⟨by rw [List.length_take, h.1]; omega, fun h0 => ?_⟩
  obtain ⟨b, o, e, hb, hc⟩ := h.2 (by omega)
  refine ⟨b, o, e, hb, fun j hj => ?_⟩
  have e : (xs.take k).getD j 0 = xs.getD j 0 := by simp [List.getD, hj]
  rw [hc j (by omega), e]
end Go.Proofs.Ytjiafpmcibokbaa
