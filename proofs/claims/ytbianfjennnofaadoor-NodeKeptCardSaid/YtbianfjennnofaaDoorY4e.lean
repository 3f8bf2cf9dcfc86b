/- WALKS OF LAYER 4, FIFTH PART: whether a text is a path; the reference's Cut and Parts. -/
import Derived.Test.YtbianfjennnofaaDoorY4d
namespace Go.Proofs.YtbianfjennnofaaDoor
set_option linter.unusedVariables false
open Go Go.RowKit Go.Shelf
set_option maxHeartbeats 1000000
set_option maxRecDepth 100000
/-- The slice value '.slice A n c' reads as the texts xs, in a block below B. -/
def RT (w : World) (B : Nat) (A : Option Addr) (n : Nat) (xs : List ByteArray) : Prop :=
  xs.length = n ∧ (0 < n → ∃ g, A = some ⟨g, 0, none⟩ ∧ g < B ∧ ∀ j x, xs[j]? = some x → w.cell? ⟨g, j, none⟩ = some (.string x))
theorem OS.rt {w : World} {base : Nat} {v : Value} {xs : List ByteArray} (h : OS w base v xs) : ∃ A c, v = .slice A xs.length c ∧ RT w w.heap.size A xs.length xs ∧ xs.length ≤ c ∧ c ≤ maxLen := by
  have hh := h
  rcases h.2 with ⟨rfl, h0⟩ | ⟨g, cap, cur, rfl, hb, hg, hnc, hcm, hcs, htake⟩
  · rw [h0]
    have : xs = [] := List.eq_nil_of_length_eq_zero h0
    subst this
    exact ⟨none, 0, rfl, ⟨rfl, fun h => absurd h (by omega)⟩, Nat.le_refl _, Nat.zero_le _⟩
  · refine ⟨_, cap, rfl, ⟨rfl, fun hn => ⟨g, rfl, (World.ownsRow.lt hh g rfl).2, fun j x hj => ?_⟩⟩, hnc, hcm⟩
    have hjl := (List.getElem?_eq_some_iff.1 hj).1
    rw [World.ownsRow.cellAt hh j (by omega)]
    simp [hj]
theorem RT.below {w w' : World} {B n : Nat} {A : Option Addr} {xs : List ByteArray} (h : RT w B A n xs) (hb : Below B w w') : RT w' B A n xs :=
  ⟨h.1, fun hn => by
    obtain ⟨g, e, hlt, hc⟩ := h.2 hn
    exact ⟨g, e, hlt, fun j x hj => (hb.cell (p := ⟨g, j, none⟩) hlt).trans (hc j x hj)⟩⟩
theorem RT.more {w : World} {B B' n : Nat} {A : Option Addr} {xs : List ByteArray} (h : RT w B A n xs) (hB : B ≤ B') : RT w B' A n xs :=
  ⟨h.1, fun hn => by
    obtain ⟨g, e, hlt, hc⟩ := h.2 hn
    exact ⟨g, e, by omega, hc⟩⟩
theorem RT.at_ {w : World} {B n : Nat} {A : Option Addr} {xs : List ByteArray} (h : RT w B A n xs) {k : Nat} (hk : k < n) : ∃ g x, A = some ⟨g, 0, none⟩ ∧ xs[k]? = some x ∧ w.cell? ⟨g, k, none⟩ = some (.string x) := by
  obtain ⟨g, e, _, hc⟩ := h.2 (by omega)
  have hx : xs[k]? = some (xs[k]'(by have := h.1; omega)) := List.getElem?_eq_getElem _
  exact ⟨g, _, e, hx, hc k _ hx⟩
theorem below_grown1 {w wr w2 : World} {size n : Nat} {e : TypeId} {v : Value} {xs : List Value} {o : Obj} (hb : Below w.heap.size w wr) (ho : wr.ownsRow w.heap.size e size v n xs) (hg : (wr.alloc o).grownBy w2 v.ownBlock) : Below w.heap.size w w2 :=
  (hb.alloc hb.size o).grown hg (by have := hb.size; simp; omega) fun k hk => (World.ownsRow.lt ho k hk).1
set_option maxRecDepth 100000 in
theorem may_any (s : ByteArray) (w : World) (hs : s.size ≤ 1000000) :
    Calls Tryd.prog 45 #[.string s] w fun e w' => e = .returned (.bool ((Pp.partsS s).2 == 0)) ∧ Below w.heap.size w w' := by
  have k := parts_any s w hs
  generalize Pp.partsS s = p at *
  obtain ⟨l, c⟩ := p
  have k := Lib.hid k
  go_enter Tryd.func45, Tryd.ntmps45
  go_wp2_with (go_at_call 44; refine k.out.mono ?_; rintro e w' ⟨v, rfl, ho, hb⟩)
  go_ret
  exact ⟨rfl, hb⟩
end Go.Proofs.YtbianfjennnofaaDoor
