/- Words on memory that the walks of this seat use: a slice of bytes that reads as a list of numbers, and one that the call itself has made. Plain theorems; no Go text is named. -/
import Derived.WalkKit
import Derived.ProofKit
import Derived.OpenShut
import Derived.ShutString
import Derived.Below
import Derived.Handy
import Derived.PlainAid
import Derived.Lib.Hide
import Derived.Deep.QuietTactic
import Derived.BigQuiet
import Derived.LoopTactic
import Derived.WalkLawsBesides
import Derived.WalkSpells
import Derived.Deep.Draws
import Derived.Outline
import Derived.WalkMore
import Derived.ScopeJumps
import Derived.Deep.DeepCutAuto
import Derived.Deep.CutBlock
namespace Go.Proofs.Ytjiafpmcibokbaa
open Go.RowKit

section
variable {P : Program} {a : Act} {w : World} {Q : Exit → Act → World → Prop}
theorem noGoto_jump {l : Nat} {J : Act → World → Prop} (e : Exit) (a : Act) (w : World) (h : Exit.noGoto Q e a w) : Exit.jump l J Q e a w := by
  cases e <;> first | exact h | exact h.elim
/-- A SCOPE THAT THE RUN LEAVES BY ONE GOTO, FORWARD, to label l: what stands behind the label is walked on. -/
theorem wp_scope_once {c rest : Code} (l : Nat) (hf : findLabel c l = some rest)
    (first : c.wp P (Exit.jump l (fun a w => rest.wp P (Exit.noGoto Q) a w) Q) a w) : (Code.scope c).wp P Q a w :=
  wp_scope_jumps l (fun a w => rest.wp P (Exit.noGoto Q) a w) (fun _ _ => 0) hf first fun a w h b k cs => by
    obtain ⟨e, a₁, w₁, hq, harr⟩ := h b k cs
    exact ⟨e, a₁, w₁, noGoto_jump e a₁ w₁ hq, harr⟩
@[go_sem] theorem jump_normal {l : Nat} {J : Act → World → Prop} : Exit.jump l J Q .normal a w = Q .normal a w := rfl
@[go_sem] theorem jump_exit {l : Nat} {J : Act → World → Prop} (id : Nat) : Exit.jump l J Q (.exit id) a w = Q (.exit id) a w := rfl
@[go_sem] theorem jump_ret {l : Nat} {J : Act → World → Prop} : Exit.jump l J Q .ret a w = Q .ret a w := rfl
@[go_sem] theorem jump_panic {l : Nat} {J : Act → World → Prop} (ch : List PanicEntry) : Exit.jump l J Q (.panic ch) a w = Q (.panic ch) a w := rfl
end
theorem ret_bool {a b : Bool} (h : a = b) : Ending.returned (.bool a) = .returned (.bool b) := by rw [h]
theorem ret_vi {k : IntKind} {v : Value} {a b : Int} (h : a = b) : Ending.returned (.tuple #[v, .int k a]) = .returned (.tuple #[v, .int k b]) := by rw [h]
theorem ret_ii {k l : IntKind} {a b c d : Int} (h : a = b) (h2 : c = d) : Ending.returned (.tuple #[.int k a, .int l c]) = .returned (.tuple #[.int k b, .int l d]) := by rw [h, h2]
theorem ret_ib {k : IntKind} {a b : Int} {c d : Bool} (h : a = b) (h2 : c = d) : Ending.returned (.tuple #[.int k a, .bool c]) = .returned (.tuple #[.int k b, .bool d]) := by rw [h, h2]
theorem ret_int {k : IntKind} {a b : Int} (h : a = b) : Ending.returned (.int k a) = .returned (.int k b) := by rw [h]

theorem getD_mem {xs : List Int} {k : Nat} (h : k < xs.length) : xs.getD k 0 ∈ xs := by simp [List.getD, h]
/-- How long a slice value is. -/
def lenV : Value → Nat
  | .slice _ m _ => m
  | _ => 0
/-- THE SLICE VALUE '.slice A n c' READS AS THE BYTES xs, all in blocks below B. -/
def RB (w : World) (B : Nat) (A : Option Addr) (n : Nat) (xs : List Int) : Prop :=
  xs.length = n ∧ (0 < n → ∃ b o, A = some ⟨b, o, none⟩ ∧ b < B ∧ ∀ j, j < n → w.cell? ⟨b, o + j, none⟩ = some (.int .u8 (xs.getD j 0)))
/-- Each number is a byte. -/
def Byt (xs : List Int) : Prop := ∀ j, 0 ≤ xs.getD j 0 ∧ xs.getD j 0 ≤ 255

/-- What the opening of an argument gives. -/
theorem rb_open {w : World} {x : Addr} {l c : Nat} {zs : List Int} (hl : l ≤ c) (hz : zs.length = c) (hcell : ∀ i, i < zs.length → w.cell? (x.add i) = some (.int .u8 (zs.getD i 0))) : RB w w.heap.size (some x) l (zs.take l) := by
  refine ⟨by rw [List.length_take]; omega, fun hn => ?_⟩
  have h0 := hcell 0 (by omega)
  obtain ⟨b, o, s⟩ := x
  have hs : s = none := by have := World.cell?_spot h0; simpa [Addr.add] using this
  subst hs
  refine ⟨b, o, rfl, ?_, fun j hj => ?_⟩
  · have := World.block_lt_of_cell? w _ h0
    simpa [Addr.add] using this
  · have h := hcell j (by omega)
    have e : ((⟨b, o, none⟩ : Addr).add j) = ⟨b, o + j, none⟩ := by
      unfold Addr.add
      by_cases h0 : j = 0 <;> simp [h0]
    rw [e] at h
    rw [h]
    simp [List.getD, hj]
theorem byt_open {zs : List Int} (h : ∀ n ∈ zs, (Lit.int .u8 n).wf = true) (l : Nat) : Byt (zs.take l) := fun j => by
  by_cases hj : j < l
  · have := range_u8 h j
    simpa [List.getD, List.getElem?_take, hj] using this
  · simp [List.getD, List.getElem?_take, hj]
/-- THE SLICE VALUE v IS THE CALL's OWN (in a block from base on) AND HOLDS THE BYTES xs; e: the byte type's number. -/
def OB (w : World) (base : Nat) (e : TypeId) (v : Value) (xs : List Int) : Prop := w.ownsRow base e 1 v xs.length (xs.map (Value.int .u8))

theorem below_drewN {B : Nat} {a w : World} (h : Below B a w) (n : Nat) : Below B a (w.drewN n) := ⟨h.os, h.tape, h.output, h.size, h.block⟩
section
variable {w w' : World} {B B' n : Nat} {A : Option Addr} {xs : List Int}
theorem RB.nil : RB w B A 0 [] := ⟨rfl, fun h => absurd h (by omega)⟩
theorem RB.at_ (h : RB w B A n xs) {k : Nat} (hk : k < n) : ∃ b o, A = some ⟨b, o, none⟩ ∧ b < B ∧ w.cell? ⟨b, o + k, none⟩ = some (.int .u8 (xs.getD k 0)) := by
  obtain ⟨b, o, e, hb, hc⟩ := h.2 (by omega)
  exact ⟨b, o, e, hb, hc k hk⟩
theorem RB.at_' {b o : Nat} (h : RB w B (some ⟨b, o, none⟩) n xs) {k : Nat} (hk : k < n) : w.cell? ⟨b, o + k, none⟩ = some (.int .u8 (xs.getD k 0)) := by
  obtain ⟨_, _, e, _, hc⟩ := h.at_ hk
  cases e
  exact hc
theorem RB.at0 (h : RB w B A n xs) (hk : 0 < n) : ∃ b o, A = some ⟨b, o, none⟩ ∧ b < B ∧ w.cell? ⟨b, o, none⟩ = some (.int .u8 (xs.getD 0 0)) := h.at_ hk
theorem RB.keep (h : RB w B A n xs) (hk : ∀ p : Addr, p.block < B → w'.cell? p = w.cell? p) : RB w' B A n xs :=
  ⟨h.1, fun hn => by
    obtain ⟨b, o, e, hb, hc⟩ := h.2 hn
    exact ⟨b, o, e, hb, fun j hj => (hk _ (by exact hb)).trans (hc j hj)⟩⟩
theorem RB.more (h : RB w B A n xs) (hB : B ≤ B') : RB w B' A n xs :=
  ⟨h.1, fun hn => by
    obtain ⟨b, o, e, hb, hc⟩ := h.2 hn
    exact ⟨b, o, e, by omega, hc⟩⟩
theorem RB.below (h : RB w B A n xs) (hb : Below B w w') : RB w' B A n xs := h.keep fun _ hp => hb.cell hp
theorem RB.drewN (h : RB w B A n xs) (k : Nat) : RB (w.drewN k) B A n xs := h
theorem RB.alloc (h : RB w B A n xs) (hB : B ≤ w.heap.size) (o : Obj) : RB (w.alloc o) B A n xs := h.keep fun p hp => World.cell?_alloc_lt w o p (by omega)
/-- The address of 's[k:]' as the walk writes it. -/
theorem RB.cut (h : RB w B A n xs) {k cap : Nat} (hk : k ≤ n) (hc : n ≤ cap) :
    RB w B (if cap = k then A else A.map (·.add k)) (n - k) (xs.drop k) := by
  refine ⟨by rw [List.length_drop, h.1], fun hn => ?_⟩
  obtain ⟨b, o, rfl, hb, hcell⟩ := h.2 (by omega)
  rw [if_neg (by omega)]
  refine ⟨b, o + k, ?_, hb, fun j hj => ?_⟩
  · simp only [Option.map_some, Addr.add]
    split
    · simp_all
    · rfl
  · rw [show o + k + j = o + (k + j) from by omega, hcell (k + j) (by omega)]
    simp [List.getD, List.getElem?_drop]
/-- The same, the address known. -/
theorem RB.cutAt {b o : Nat} (h : RB w B (some ⟨b, o, none⟩) n xs) {k cap : Nat} (hk : k ≤ n) (hc : n ≤ cap) (hk0 : 0 < k) :
    RB w B (if cap = k then some ⟨b, o, none⟩ else some ⟨b, o + k, none⟩) (n - k) (xs.drop k) := by
  have := h.cut hk hc
  simpa [Addr.add, show k ≠ 0 from by omega] using this
theorem Byt.drop (h : Byt xs) (k : Nat) : Byt (xs.drop k) := fun j => by
  have := h (k + j)
  simpa [List.getD, List.getElem?_drop] using this
theorem Byt.nil : Byt [] := fun j => by simp
theorem Byt.cons {x : Int} (hx : 0 ≤ x ∧ x ≤ 255) (h : Byt xs) : Byt (x :: xs) := fun j => by
  cases j with
  | zero => simpa using hx
  | succ j => simpa using h j
theorem Byt.append {ys : List Int} (h : Byt xs) (k : Byt ys) : Byt (xs ++ ys) := by
  induction xs with
  | nil => exact k
  | cons x xs ih => exact Byt.cons (h 0) (ih fun j => by have := h (j + 1); simpa using this)

theorem OB.rb {base : Nat} {e : TypeId} {v : Value} (h : OB w base e v xs) : ∃ A c, v = .slice A xs.length c ∧ RB w w.heap.size A xs.length xs ∧ xs.length ≤ c ∧ c ≤ maxLen := by
  have hh := h
  rcases h.2 with ⟨rfl, h0⟩ | ⟨g, cap, cur, rfl, hb, hg, hnc, hcm, hcs, htake⟩
  · rw [h0]
    have : xs = [] := List.eq_nil_of_length_eq_zero h0
    subst this
    exact ⟨none, 0, rfl, RB.nil, Nat.le_refl _, Nat.zero_le _⟩
  · refine ⟨_, cap, rfl, ⟨rfl, fun hn => ⟨g, 0, rfl, (World.ownsRow.lt hh g rfl).2, fun j hj => ?_⟩⟩, hnc, hcm⟩
    rw [show (0 + j) = j from by omega, World.ownsRow.cellAt hh j (by omega)]
    simp [List.getD, hj]
/-- The same, its length named apart. -/
def OBn (w : World) (base : Nat) (e : TypeId) (v : Value) (n : Nat) (xs : List Int) : Prop := w.ownsRow base e 1 v n (xs.map (Value.int .u8))
theorem OBn.len {base : Nat} {e : TypeId} {v : Value} (h : OBn w base e v n xs) : xs.length = n := by have := h.1; simpa using this
theorem OBn.ob {base : Nat} {e : TypeId} {v : Value} (h : OBn w base e v n xs) : OB w base e v xs := by have := h.len; subst this; exact h
theorem OB.obn {base : Nat} {e : TypeId} {v : Value} (h : OB w base e v xs) : OBn w base e v xs.length xs := h
theorem OBn.made {base : Nat} {e : TypeId} {v : Value} (h : w.ownsRow base e 1 v n (madeCells (Value.int .u8 0).cells (n * 1)).toList) : OBn w base e v n (List.replicate n 0) := by
  have he : (madeCells (Value.int .u8 0).cells (n * 1)).toList = (List.replicate n (0 : Int)).map (Value.int .u8) := by
    rw [show (Value.int .u8 0).cells = #[Value.int .u8 0] from rfl, toList_madeCells_one, Nat.mul_one, List.map_replicate]
  rw [he] at h
  exact h
theorem OBn.stored {base : Nat} {e : TypeId} {g c : Nat} (h : OBn w base e (.slice (some ⟨g, 0, none⟩) n c) n xs) (j : Nat) (x : Int) :
    OBn (w.setCell ⟨g, j, none⟩ (.int .u8 x)) base e (.slice (some ⟨g, 0, none⟩) n c) n (xs.set j x) := by
  have := (World.ownsRow.stored h j (.int .u8 x)).1
  unfold OBn
  rwa [List.map_set]
theorem OBn.cell {base : Nat} {e : TypeId} {g c : Nat} (h : OBn w base e (.slice (some ⟨g, 0, none⟩) n c) n xs) (j : Nat) (hj : j < n) : w.cell? ⟨g, j, none⟩ = some (.int .u8 (xs.getD j 0)) := by
  have hl := h.len
  rw [World.ownsRow.cellAt h j (by omega)]
  simp [List.getD, show j < xs.length from by omega]
theorem OBn.free {base : Nat} {e : TypeId} {g c : Nat} (h : OBn w base e (.slice (some ⟨g, 0, none⟩) n c) n xs) (j : Nat) : w.frozen? ⟨g, j, none⟩ = false := World.ownsRow.frozenAt h j
theorem OBn.at_ {base : Nat} {e : TypeId} {g c : Nat} (h : OBn w base e (.slice (some ⟨g, 0, none⟩) n c) n xs) : base ≤ g ∧ g < w.heap.size := World.ownsRow.lt h g rfl
theorem one_one {x : Value} (h : x.oneCell' = true) : ∀ u ∈ [x], u.oneCell' = true := by
  intro u hu
  obtain rfl : u = x := by simpa using hu
  exact h
theorem OB.snoc {base : Nat} {e : TypeId} {v : Value} {x : Int} (h : w.ownsRow base e 1 v (xs.length + 1) (xs.map (Value.int .u8) ++ [.int .u8 x])) : OB w base e v (xs ++ [x]) := by
  unfold OB
  simpa using h
theorem OB.lt {base : Nat} {e : TypeId} {v : Value} (h : OB w base e v xs) : ∀ k, v.ownBlock = some k → base ≤ k ∧ k < w.heap.size := World.ownsRow.lt h
theorem OB.nil (w : World) (base : Nat) (e : TypeId) : OB w base e (.slice none 0 0) [] := World.ownsRow_nil _ _ _ _
theorem OB.drewN {base : Nat} {e : TypeId} {v : Value} (h : OB w base e v xs) (k : Nat) : OB (w.drewN k) base e v xs := h
end
theorem bthen {a b c : World} (h : Below a.heap.size a b) (k : Below b.heap.size b c) : Below a.heap.size a c := h.trans (k.mono h.size)
theorem quiet_left {P : Program} {f : FuncId} {args : Array Value} {w : World} {n : Nat} {v : Value}
    (h : Calls P f args (w.drewN n) fun e w' => e = .returned v ∧ w.drewN n = w') : Calls P f args (w.drewN n) fun e w'' => e = .returned v ∧ ∃ m, w'' = w.drewN m :=
  h.mono fun _ _ ⟨he, hm⟩ => ⟨he, n, hm.symm⟩
theorem quiet_add_left {P : Program} {f : FuncId} {args : Array Value} {w : World} {a n : Nat} {v : Value}
    (h : Calls P f args (w.drewN (a + n)) fun e w' => e = .returned v ∧ w.drewN (a + n) = w') :
    Calls P f args (w.drewN (a + n)) fun e w'' => e = .returned v ∧ ∃ m, w'' = w.drewN (a + m) :=
  h.mono fun _ _ ⟨he, hm⟩ => ⟨he, n, hm.symm⟩
end Go.Proofs.Ytjiafpmcibokbaa
