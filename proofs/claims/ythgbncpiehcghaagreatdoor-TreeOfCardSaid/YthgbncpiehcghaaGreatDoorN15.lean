/- A LIST OF MEMBERS IN MEMORY; what a walk's rounds keep. -/
import Derived.Test.YthgbncpiehcghaaGreatDoorGr1
import Derived.Test.YthgbncpiehcghaaGreatDoorGf1
import Derived.Test.YthgbncpiehcghaaGreatDoorGn4
import Derived.Test.YthgbncpiehcghaaGreatDoorGt1
namespace Go.Proofs.YthgbncpiehcghaaGreatDoor
set_option linter.unusedVariables false
open Go Go.RowKit Go.Maps
set_option maxRecDepth 100000
set_option maxHeartbeats 4000000
open Nt (Tr Nd WF Ps Path at_ cnt used txt Mm)
/-- A member's cells. -/
abbrev MmC (x : Mm) : Array Value := #[.string x.1, .int .i64 x.2.kind, .int .i64 x.2.mode, .int .i64 x.2.uid, .int .i64 x.2.gid, .int .i64 x.2.mtime, .string x.2.link, .slice x.2.A x.2.n x.2.c]
theorem MmC_size (x : Mm) : (MmC x).size = 8 := rfl
theorem MmC_one (x : Mm) : ∀ u ∈ (MmC x).toList, u.oneCell' = true := by
  intro u h
  simp at h
  rcases h with rfl | rfl | rfl | rfl | rfl | rfl | rfl | rfl <;> rfl
abbrev Mmz : Value := .agg #[.string "".toUTF8, .int .i64 0, .int .i64 0, .int .i64 0, .int .i64 0, .int .i64 0, .string "".toUTF8, .slice none 0 0]
theorem info_memb15 : (Tryz.prog.info? 102).map (fun i => (i.zero, i.size, i.bytes)) = some (some Mmz, 8, 96) := by kernel_rfl
/-- Bytes of a member are there. -/
def MmD (w : World) (x : Mm) : Prop := RBT w x.2.A x.2.n x.2.xs ∧ x.2.n ≤ x.2.c ∧ x.2.c ≤ maxLen
/-- A row of members, with their bytes. -/
def MRow (w : World) (A : Option Addr) (n : Nat) (l : List Mm) : Prop := RowOf MmC 8 102 w A n l ∧ ∀ x ∈ l, MmD w x
theorem MmD.below {w w' : World} {x : Mm} (h : MmD w x) (hb : Below w.heap.size w w') : MmD w' x := ⟨h.1.below hb, h.2⟩
theorem MmD.keptX {X : Obj → Prop} {w w' : World} {x : Mm} (h : MmD w x) (hk : KeepX X w w') (hX : NoU8 X) : MmD w' x := ⟨h.1.keptX hk hX, h.2⟩
theorem MRow.below {w w' : World} {A : Option Addr} {n : Nat} {l : List Mm} (h : MRow w A n l) (hb : Below w.heap.size w w') : MRow w' A n l := ⟨h.1.below hb, fun x hx => (h.2 x hx).below hb⟩
/-- The same members, wherever their bytes lie. -/
def erm (x : Mm) : Mm := (x.1, x.2.er)
section
variable {w : World} {A : Option Addr} {n k : Nat} {base : Nat} {v : Value}
theorem app_mmN {l1 l : List Mm} (hk : l1.length = k) (hown : w.ownsRow base 102 8 v k (rl MmC l1)) (hr : RowOf MmC 8 102 w A n l) (c : Nat) (h9 : k + n ≤ 1000000) (hb : base ≤ w.heap.size) :
    ∃ v' w', (Builtin.append_ #[81, 81] 81 #[v, .slice A n c]).run Tryz.prog w = .ok v' w' ∧ w'.ownsRow base 102 8 v' (k + n) (rl MmC (l1 ++ l)) ∧ w.grownBy w' v.ownBlock ∧ (∀ k, v'.ownBlock = some k → v.ownBlock = some k ∨ w.heap.size ≤ k) := by
  subst hk
  obtain ⟨i0, hi, hz0, hz1, hz2⟩ := info_parts info_memb15
  exact app_row 81 i0 Mmz 96 Tryz.underlying81 hi hz0 hz1 hz2 rfl (by decide) MmC_size MmC_one hown hr c (by unfold maxLen; omega) (by omega) hb
end
/-- What a round of a list's walk may turn: a box of its own, the list's row, a tree's marks, the loop's record. -/
def RoundObj (o : Obj) : Prop := TreeObj o ∨ (∃ r, o = .loop r) ∨ ∃ cs T fz, o = .cells cs T fz ∧ (T = 81 ∨ T = 41 ∨ T = 102 ∨ T = 92)
theorem round_str : ∀ cs fz, ¬ RoundObj (.cells cs 9 fz) := by
  rintro cs fz (h | ⟨_, h⟩ | ⟨_, _, _, h, h1⟩)
  · rcases h with ⟨_, _, h⟩ | ⟨_, _, _, h, h1 | h1⟩
    · cases h
    · cases h; cases h1
    · cases h; cases h1
  · cases h
  · cases h
    rcases h1 with h1 | h1 | h1 | h1 <;> cases h1
theorem round_u8 : NoU8 RoundObj := by
  rintro cs fz (h | ⟨_, h⟩ | ⟨_, _, _, h, h1⟩)
  · exact tree_u8 _ _ h
  · cases h
  · cases h
    rcases h1 with h1 | h1 | h1 | h1 <;> cases h1
/-- WHAT A ROUND KEEPS for the walk. -/
def Kp15 (n0 : Nat) (A B : World) : Prop := Below n0 A B ∧ KeepX RoundObj A B
theorem Kp15.refl (n0 : Nat) (A : World) : Kp15 n0 A A := ⟨Below.refl _ _, KeepX.refl _ _⟩
theorem Kp15.trans {n0 : Nat} {A B C : World} (h : Kp15 n0 A B) (k : Kp15 n0 B C) : Kp15 n0 A C := ⟨h.1.trans k.1, h.2.trans k.2⟩
theorem Kp15.ofBelow {n0 : Nat} {A B : World} (h : Below A.heap.size A B) (hn : n0 ≤ A.heap.size) : Kp15 n0 A B := ⟨h.mono hn, KeepX.ofBelow h⟩
theorem Kp15.loop {n0 : Nat} {W : World} {l : Nat} {r r' : Loop} (hn : n0 ≤ l) (h : W.heap[l]? = some (.loop r)) : Kp15 n0 W (W.putObj l (.loop r')) := by
  have hl : l < W.heap.size := (Array.getElem?_eq_some_iff.1 h).1
  refine ⟨(Below.refl n0 W).grown (grownBy_putObj' W l _) (by omega) (fun k e => by cases e; exact hn), ?_⟩
  refine ⟨rfl, rfl, rfl, by simp, fun k o hk hno => ?_⟩
  by_cases e : k = l
  · subst e
    rw [h] at hk
    cases hk
    exact absurd (.inr (.inl ⟨_, rfl⟩)) hno
  · exact (World.putObj_heap_other e).trans hk
end Go.Proofs.YthgbncpiehcghaaGreatDoor
