/- A RANGE OVER A FUNCTION WHOSE ITERATOR KEEPS STATE OF ITS OWN IN CELLS (strings.SplitSeq: the text that is left): the law of the statement. T says what the iterator's own boxes hold while a round runs, St which steps of its own it takes between two rounds; the caller's invariant abides these. Plain theorems over whatever program; no Go text is named. -/
import Derived.Test.YthgbncpiehcghaaGreatDoorBase
import Derived.RangeFuncBox
import Derived.RangeFuncLeaves
import Derived.RangeFuncCalls
import Derived.RangeFuncFrom
namespace Go.Proofs.YthgbncpiehcghaaGreatDoor
set_option linter.unusedVariables false
open Go Go.RowKit
section
variable {α : Type} {F : Fence} {n : Nat} {P : Program}
/-- THE ITERATOR's CONTRACT: the value '.func g' with lb, called at yield l: each of L comes, in its order; or a part, a round having said 'no more'. -/
def Gives (F : Fence) (n : Nat) (P : Program) (g : Nat) (lb : Array Value) (encs : α → Array Value) (St : World → World → Prop) (T : List α → World → Prop) (L : List α) : Prop :=
  ∀ (l : Nat) (J Jx : List α → World → Prop) (W : World), (∀ s A B, St A B → J s A → J s B) → T [] W → J [] W →
    (∀ pre x W1, pre ++ [x] <+: L → J pre W1 → T pre W1 → YieldAt F (n - 1) P l (encs x) W1 fun e W' =>
      (e = .returned (.bool true) ∧ J (pre ++ [x]) W' ∧ T pre W') ∨ (e = .returned (.bool false) ∧ Jx (pre ++ [x]) W')) →
    CallsIn F n P g (#[.func (.yield l) #[] #[]] ++ lb) W fun e W' => (∃ v, e = .returned v) ∧ (J L W' ∨ ∃ pre, pre <+: L ∧ Jx pre W')
/-- How the body of a round may be left. -/
def Ends (T I : List α → World → Prop) (Ix : Code → List α → World → Prop) (pre : List α) (x : α) (W : World) : Exit → Act → World → Prop
  | .normal, _, W' => KeepsOthers W W' ∧ T pre W' ∧ I (pre ++ [x]) W'
  | .ret, _, W' => KeepsOthers W W' ∧ Ix .ret (pre ++ [x]) W'
  | .exit id, _, W' => KeepsOthers W W' ∧ Ix (.exit id) (pre ++ [x]) W'
  | .goto t, _, W' => KeepsOthers W W' ∧ Ix (.goto t) (pre ++ [x]) W'
  | .panic _, _, _ => False
  | .outgrown, _, _ => False
/-- THE LAW. -/
theorem range_gives {g : Operand} {ps : Array Tmp} {assign body : Code} {Q : Exit → Act → World → Prop} {a : Act} {w : World} (hro : F.round = none) (h1 : 1 ≤ n)
    {gf : Nat} {lb : Array Value} (hg : a.eval g = .func (.func gf) #[] lb) (hFg : F.fn gf) (eg : ∀ args w, (callFunc gf args).run P w = .ok (.enter gf args) w)
    {encs : α → Array Value} (hps : ∀ x, (encs x).size = ps.size) {St : World → World → Prop} {T : List α → World → Prop} {L : List α} (hseq : Gives F (n - 1) P gf lb encs St T L)
    (I : List α → World → Prop) (Ix : Code → List α → World → Prop) (hT : OwnFrom w.heap.size T) (hI : OwnFrom w.heap.size I) (hIx : ∀ c, OwnFrom w.heap.size (Ix c))
    (hIS : ∀ s A B, St A B → I s A → I s B) (hS : ∀ A B, St A B → ∀ (k : Nat) (o : Obj), A.heap[k]? = some o → o.isCells = false → B.heap[k]? = some o)
    (hT0 : T [] w) (hI0 : I [] w) (a₁ : α → Act)
    (hassign : ∀ (l : Nat) (x : α) (W : World) (K : Act → World → Prop), K (a₁ x) W →
      assign.wpIn (F.inRound l) (n - 1 - 1) P (Exit.then K (fun _ _ _ => False)) { tmps := (ps.zip (encs x)).foldl (fun t (p, v) => t.setIfInBounds p v) a.tmps, defers := [] } W)
    (hbody : ∀ (l : Nat) (pre : List α) (x : α) (W : World), pre ++ [x] <+: L → I pre W → T pre W → body.wpIn (F.inRound l) (n - 1 - 1) P (Ends T I Ix pre x W) (a₁ x) W)
    (hdone : ∀ (D : Nat) (W : World), w.heap.size ≤ D → I L W → W.heap[D]? = some (.deferred (some [])) → Q .normal { a with defers := { target := .collected D, args := #[] } :: a.defers } W)
    (hstop : ∀ (D : Nat) (c : Code) (pre : List α) (W : World), w.heap.size ≤ D → pre <+: L → Ix c pre W → W.heap[D]? = some (.deferred (some [])) → c.wpIn F n P Q { a with defers := { target := .collected D, args := #[] } :: a.defers } W) :
    (Code.rangeFunc g ps assign body).wpIn F n P Q a w := by
  refine wpIn_rangeFunc fun fn hfn => ?_
  rw [hro]
  let r : LoopState → Option Code → Loop := fun st c => { state := st, pending := c, fn, tmps := a.tmps, params := ps, assign, body, defers := w.heap.size }
  obtain ⟨b, hb⟩ : ∃ b, w.heap.size = b := ⟨_, rfl⟩
  rw [hb] at hT hI hIx hdone hstop
  -- the record lies at 'b + 1', the block for the rounds' deferred calls at 'b'
  have two : ∀ (J : List α → World → Prop), OwnFrom b J → J [] w → J [] ((w.alloc (.deferred (some []))).alloc (.loop (r .ready none))) := fun J h h0 => h.alloc _ (h.alloc _ h0)
  have rec0 : ((w.alloc (.deferred (some []))).alloc (.loop (r .ready none))).heap[b + 1]? = some (.loop (r .ready none)) := by
    have := World.alloc_heap_new (w.alloc (.deferred (some []))) (.loop (r .ready none))
    rwa [World.size_alloc, hb] at this
  have def0 : ((w.alloc (.deferred (some []))).alloc (.loop (r .ready none))).heap[b]? = some (.deferred (some [])) :=
    (Below.heap_alloc _ _ _ (by simp; omega)).trans (by rw [← hb]; exact World.alloc_heap_new w _)
  obtain ⟨W1, hW1⟩ : ∃ W1, (w.alloc (.deferred (some []))).alloc (.loop (r .ready none)) = W1 := ⟨_, rfl⟩
  rw [hW1] at rec0 def0
  refine ⟨b + 1, [{ target := .collected b, args := #[] }], W1, { target := .fn (.func gf) lb, args := #[.func (.yield (b + 1)) #[] #[]] }, W1, gf, #[.func (.yield (b + 1)) #[] #[]] ++ lb, W1,
    ?_, ?_, ?_, ?_, fun _ => h1, ?_⟩
  · rw [← hW1, ← hb]; exact run_enterLoop_outer _ _ _ _ _
  · simp only [resolve, hg]
    simp [go_sem]
  · intro f' hf'
    simp [Target.leads] at hf'
    subst hf'
    exact hFg
  · simp [invoke, go_sem, eg]
  have put : ∀ {W : World} {o : Obj} (o' : Obj), W.heap[b + 1]? = some o → W.heap[b]? = some (.deferred (some [])) → (W.putObj (b + 1) o').heap[b + 1]? = some o' ∧ (W.putObj (b + 1) o').heap[b]? = some (.deferred (some [])) :=
    fun o' h h' => ⟨World.putObj_heap_same (Array.getElem?_eq_some_iff.1 h).1, (World.putObj_heap_other (by omega)).trans h'⟩
  refine (hseq (b + 1) (fun s W => I s W ∧ W.heap[b + 1]? = some (.loop (r .ready none)) ∧ W.heap[b]? = some (.deferred (some [])))
    (fun s W => ∃ c, Ix c s W ∧ W.heap[b + 1]? = some (.loop (r .done (some c))) ∧ W.heap[b]? = some (.deferred (some []))) W1
    (fun s A B h hs => ⟨hIS s A B h hs.1, hS A B h _ _ hs.2.1 rfl, hS A B h _ _ hs.2.2 rfl⟩) (by rw [← hW1]; exact two T hT hT0) ⟨by rw [← hW1]; exact two I hI hI0, rec0, def0⟩ ?_).mono ?_
  · rintro pre x W hx ⟨hi, hr, hd⟩ ht
    have hy := run_yield (P := P) (args := encs x) hr (hps x)
    refine ⟨_, _, _, _, hy, roundIn_of_wpIn hfn (hassign _ x W _ ⟨_, run_beginRound hr rfl, ?_⟩)⟩
    obtain ⟨hr2, hd2⟩ := put (.loop { r .ready none with state := .busy }) hr hd
    refine wpIn_mono (hbody _ pre x _ hx (hI.putObj _ hi (by omega) hr rfl) (hT.putObj _ ht (by omega) hr rfl)) ?_
    intro e a3 W3 hp
    have go : ∀ (j : Option Code), KeepsOthers (W.putObj (b + 1) (.loop { r .ready none with state := .busy })) W3 →
        (Instr.endRound (b + 1) j).run P W3 = .ok (.bool j.isNone) (W3.putObj (b + 1) (.loop (r (if j.isNone then .ready else .done) j))) ∧ W3.heap[b + 1]? = some (.loop { r .ready none with state := .busy }) ∧ W3.heap[b]? = some (.deferred (some [])) :=
      fun j hk => ⟨run_endRound j (hk.same _ _ hr2 rfl), hk.same _ _ hr2 rfl, hk.same _ _ hd2 rfl⟩
    have out : ∀ (c : Code), KeepsOthers (W.putObj (b + 1) (.loop { r .ready none with state := .busy })) W3 → Ix c (pre ++ [x]) W3 →
        ∃ v w', (Instr.endRound (b + 1) (some c)).run P W3 = .ok v w' ∧ ((Ending.returned v = .returned (.bool true) ∧ (I (pre ++ [x]) w' ∧ w'.heap[b + 1]? = some (.loop (r .ready none)) ∧ w'.heap[b]? = some (.deferred (some []))) ∧ T pre w') ∨
          (Ending.returned v = .returned (.bool false) ∧ ∃ c, Ix c (pre ++ [x]) w' ∧ w'.heap[b + 1]? = some (.loop (r .done (some c))) ∧ w'.heap[b]? = some (.deferred (some [])))) := fun c hk hc => by
      obtain ⟨he, h3, h4⟩ := go (some c) hk
      exact ⟨_, _, he, .inr ⟨rfl, c, (hIx c).putObj _ hc (by omega) h3 rfl, put _ h3 h4⟩⟩
    cases e with
    | normal =>
      obtain ⟨hk, ht3, hi3⟩ := hp
      obtain ⟨he, h3, h4⟩ := go none hk
      exact ⟨_, _, he, .inl ⟨rfl, ⟨hI.putObj _ hi3 (by omega) h3 rfl, put _ h3 h4⟩, hT.putObj _ ht3 (by omega) h3 rfl⟩⟩
    | ret => exact out .ret hp.1 hp.2
    | exit id => exact out (.exit id) hp.1 hp.2
    | goto t => exact out (.goto t) hp.1 hp.2
    | panic ch => exact hp.elim
    | outgrown => exact hp.elim
  · rintro e W ⟨⟨v, rfl⟩, ⟨hi, hr, hd⟩ | ⟨pre, hp, c, hi, hr, hd⟩⟩
    · exact ⟨none, _, run_endLoop (P := P) hr (by simp [r]), hdone b _ (Nat.le_refl _) (hI.putObj _ hi (by omega) hr rfl) (put _ hr hd).2⟩
    · exact ⟨some c, _, run_endLoop (P := P) hr (by simp [r]), hstop b c pre _ (Nat.le_refl _) hp ((hIx c).putObj _ hi (by omega) hr rfl) (put _ hr hd).2⟩
end
end Go.Proofs.YthgbncpiehcghaaGreatDoor
/- A RANGE OVER A FUNCTION WHOSE ITERATOR READS MEMORY AND MAKES MEMORY OF ITS OWN BETWEEN TWO ROUNDS: the law of the statement, where a round is told which part of what comes has come. Kp: what a round keeps for the iterator. Plain theorems over whatever program; no Go text is named. -/
namespace Go.Proofs.YthgbncpiehcghaaGreatDoor
set_option linter.unusedVariables false
open Go Go.RowKit
section
variable {α : Type} {F : Fence} {n : Nat} {P : Program}
/-- THE ITERATOR's CONTRACT. -/
def GivesK (F : Fence) (n : Nat) (P : Program) (g : Nat) (lb : Array Value) (encs : α → Array Value) (Kp : World → World → Prop) (L : List α) (w0 : World) : Prop :=
  ∀ (l : Nat) (J Jx : List α → World → Prop) (W : World), Below w0.heap.size w0 W → (∀ s A B, Below A.heap.size A B → J s A → J s B) → J [] W →
    (∀ pre x W1, pre ++ [x] <+: L → J pre W1 → YieldAt F (n - 1) P l (encs x) W1 fun e W' =>
      (e = .returned (.bool true) ∧ J (pre ++ [x]) W' ∧ Kp W1 W') ∨ (e = .returned (.bool false) ∧ Jx (pre ++ [x]) W')) →
    CallsIn F n P g (#[.func (.yield l) #[] #[]] ++ lb) W fun e W' => (∃ v, e = .returned v) ∧ (J L W' ∨ ∃ pre, pre <+: L ∧ Jx pre W')
/-- How the body of a round may be left. -/
def EndsK (Kp : World → World → Prop) (I : List α → World → Prop) (Ix : Code → List α → World → Prop) (pre : List α) (x : α) (W : World) : Exit → Act → World → Prop
  | .normal, _, W' => KeepsOthers W W' ∧ Kp W W' ∧ I (pre ++ [x]) W'
  | .ret, _, W' => KeepsOthers W W' ∧ Ix .ret (pre ++ [x]) W'
  | .exit id, _, W' => KeepsOthers W W' ∧ Ix (.exit id) (pre ++ [x]) W'
  | .goto t, _, W' => KeepsOthers W W' ∧ Ix (.goto t) (pre ++ [x]) W'
  | .panic _, _, _ => False
  | .outgrown, _, _ => False
/-- THE LAW. -/
theorem range_keeps {g : Operand} {ps : Array Tmp} {assign body : Code} {Q : Exit → Act → World → Prop} {a : Act} {w : World} (hro : F.round = none) (h1 : 1 ≤ n)
    {gf : Nat} {lb : Array Value} (hg : a.eval g = .func (.func gf) #[] lb) (hFg : F.fn gf) (eg : ∀ args w, (callFunc gf args).run P w = .ok (.enter gf args) w)
    {encs : α → Array Value} (hps : ∀ x, (encs x).size = ps.size) {Kp : World → World → Prop} {L : List α} {w0 : World} (hseq : GivesK F (n - 1) P gf lb encs Kp L w0) (hb0 : Below w0.heap.size w0 w)
    (hKt : ∀ {A B C : World}, Kp A B → Kp B C → Kp A C) (hKb : ∀ (W : World) (l : Nat) (r r' : Loop), w.heap.size ≤ l → W.heap[l]? = some (.loop r) → Kp W (W.putObj l (.loop r')))
    (I : List α → World → Prop) (Ix : Code → List α → World → Prop) (hI : OwnFrom w.heap.size I) (hIx : ∀ c, OwnFrom w.heap.size (Ix c))
    (hIB : ∀ s A B, Below A.heap.size A B → I s A → I s B) (hI0 : I [] w) (a₁ : α → Act)
    (hassign : ∀ (l : Nat) (x : α) (W : World) (K : Act → World → Prop), K (a₁ x) W →
      assign.wpIn (F.inRound l) (n - 1 - 1) P (Exit.then K (fun _ _ _ => False)) { tmps := (ps.zip (encs x)).foldl (fun t (p, v) => t.setIfInBounds p v) a.tmps, defers := [] } W)
    (hbody : ∀ (l : Nat) (pre : List α) (x : α) (W : World), pre ++ [x] <+: L → I pre W → body.wpIn (F.inRound l) (n - 1 - 1) P (EndsK Kp I Ix pre x W) (a₁ x) W)
    (hdone : ∀ (D : Nat) (W : World), w.heap.size ≤ D → I L W → W.heap[D]? = some (.deferred (some [])) → Q .normal { a with defers := { target := .collected D, args := #[] } :: a.defers } W)
    (hstop : ∀ (D : Nat) (c : Code) (pre : List α) (W : World), w.heap.size ≤ D → pre <+: L → Ix c pre W → W.heap[D]? = some (.deferred (some [])) → c.wpIn F n P Q { a with defers := { target := .collected D, args := #[] } :: a.defers } W) :
    (Code.rangeFunc g ps assign body).wpIn F n P Q a w := by
  refine wpIn_rangeFunc fun fn hfn => ?_
  rw [hro]
  let r : LoopState → Option Code → Loop := fun st c => { state := st, pending := c, fn, tmps := a.tmps, params := ps, assign, body, defers := w.heap.size }
  obtain ⟨b, hb⟩ : ∃ b, w.heap.size = b := ⟨_, rfl⟩
  have hbw : Below w0.heap.size w0 ((w.alloc (.deferred (some []))).alloc (.loop (r .ready none))) := (hb0.alloc hb0.size _).alloc (by have := hb0.size; simp; omega) _
  rw [hb] at hI hIx hdone hstop hKb
  have two : ∀ (J : List α → World → Prop), OwnFrom b J → J [] w → J [] ((w.alloc (.deferred (some []))).alloc (.loop (r .ready none))) := fun J h h0 => h.alloc _ (h.alloc _ h0)
  have rec0 : ((w.alloc (.deferred (some []))).alloc (.loop (r .ready none))).heap[b + 1]? = some (.loop (r .ready none)) := by
    have := World.alloc_heap_new (w.alloc (.deferred (some []))) (.loop (r .ready none))
    rwa [World.size_alloc, hb] at this
  have def0 : ((w.alloc (.deferred (some []))).alloc (.loop (r .ready none))).heap[b]? = some (.deferred (some [])) :=
    (Below.heap_alloc _ _ _ (by simp; omega)).trans (by rw [← hb]; exact World.alloc_heap_new w _)
  obtain ⟨W1, hW1⟩ : ∃ W1, (w.alloc (.deferred (some []))).alloc (.loop (r .ready none)) = W1 := ⟨_, rfl⟩
  rw [hW1] at rec0 def0 hbw
  refine ⟨b + 1, [{ target := .collected b, args := #[] }], W1, { target := .fn (.func gf) lb, args := #[.func (.yield (b + 1)) #[] #[]] }, W1, gf, #[.func (.yield (b + 1)) #[] #[]] ++ lb, W1,
    ?_, ?_, ?_, ?_, fun _ => h1, ?_⟩
  · rw [← hW1, ← hb]; exact run_enterLoop_outer _ _ _ _ _
  · simp only [resolve, hg]
    simp [go_sem]
  · intro f' hf'
    simp [Target.leads] at hf'
    subst hf'
    exact hFg
  · simp [invoke, go_sem, eg]
  have put : ∀ {W : World} {o : Obj} (o' : Obj), W.heap[b + 1]? = some o → W.heap[b]? = some (.deferred (some [])) → (W.putObj (b + 1) o').heap[b + 1]? = some o' ∧ (W.putObj (b + 1) o').heap[b]? = some (.deferred (some [])) :=
    fun o' h h' => ⟨World.putObj_heap_same (Array.getElem?_eq_some_iff.1 h).1, (World.putObj_heap_other (by omega)).trans h'⟩
  have lt : ∀ {W : World} {k : Nat} {o : Obj}, W.heap[k]? = some o → k < W.heap.size := fun h => (Array.getElem?_eq_some_iff.1 h).1
  refine (hseq (b + 1) (fun s W => I s W ∧ W.heap[b + 1]? = some (.loop (r .ready none)) ∧ W.heap[b]? = some (.deferred (some [])))
    (fun s W => ∃ c, Ix c s W ∧ W.heap[b + 1]? = some (.loop (r .done (some c))) ∧ W.heap[b]? = some (.deferred (some []))) W1 hbw
    (fun s A B h hs => ⟨hIB s A B h hs.1, (h.block _ (lt hs.2.1)).trans hs.2.1, (h.block _ (lt hs.2.2)).trans hs.2.2⟩) ⟨by rw [← hW1]; exact two I hI hI0, rec0, def0⟩ ?_).mono ?_
  · rintro pre x W hx ⟨hi, hr, hd⟩
    have hy := run_yield (P := P) (args := encs x) hr (hps x)
    refine ⟨_, _, _, _, hy, roundIn_of_wpIn hfn (hassign _ x W _ ⟨_, run_beginRound hr rfl, ?_⟩)⟩
    obtain ⟨hr2, hd2⟩ := put (.loop { r .ready none with state := .busy }) hr hd
    have hk1 := hKb W (b + 1) _ { r .ready none with state := .busy } (by omega) hr
    refine wpIn_mono (hbody _ pre x _ hx (hI.putObj _ hi (by omega) hr rfl)) ?_
    intro e a3 W3 hp
    have go : ∀ (j : Option Code), KeepsOthers (W.putObj (b + 1) (.loop { r .ready none with state := .busy })) W3 →
        (Instr.endRound (b + 1) j).run P W3 = .ok (.bool j.isNone) (W3.putObj (b + 1) (.loop (r (if j.isNone then .ready else .done) j))) ∧ W3.heap[b + 1]? = some (.loop { r .ready none with state := .busy }) ∧ W3.heap[b]? = some (.deferred (some [])) :=
      fun j hk => ⟨run_endRound j (hk.same _ _ hr2 rfl), hk.same _ _ hr2 rfl, hk.same _ _ hd2 rfl⟩
    have out : ∀ (c : Code), KeepsOthers (W.putObj (b + 1) (.loop { r .ready none with state := .busy })) W3 → Ix c (pre ++ [x]) W3 →
        ∃ v w', (Instr.endRound (b + 1) (some c)).run P W3 = .ok v w' ∧ ((Ending.returned v = .returned (.bool true) ∧ (I (pre ++ [x]) w' ∧ w'.heap[b + 1]? = some (.loop (r .ready none)) ∧ w'.heap[b]? = some (.deferred (some []))) ∧ Kp W w') ∨
          (Ending.returned v = .returned (.bool false) ∧ ∃ c, Ix c (pre ++ [x]) w' ∧ w'.heap[b + 1]? = some (.loop (r .done (some c))) ∧ w'.heap[b]? = some (.deferred (some [])))) := fun c hk hc => by
      obtain ⟨he, h3, h4⟩ := go (some c) hk
      exact ⟨_, _, he, .inr ⟨rfl, c, (hIx c).putObj _ hc (by omega) h3 rfl, put _ h3 h4⟩⟩
    cases e with
    | normal =>
      obtain ⟨hk, hkp, hi3⟩ := hp
      obtain ⟨he, h3, h4⟩ := go none hk
      exact ⟨_, _, he, .inl ⟨rfl, ⟨hI.putObj _ hi3 (by omega) h3 rfl, put _ h3 h4⟩, hKt hk1 (hKt hkp (hKb _ _ _ _ (by omega) h3))⟩⟩
    | ret => exact out .ret hp.1 hp.2
    | exit id => exact out (.exit id) hp.1 hp.2
    | goto t => exact out (.goto t) hp.1 hp.2
    | panic ch => exact hp.elim
    | outgrown => exact hp.elim
  · rintro e W ⟨⟨v, rfl⟩, ⟨hi, hr, hd⟩ | ⟨pre, hp, c, hi, hr, hd⟩⟩
    · exact ⟨none, _, run_endLoop (P := P) hr (by simp [r]), hdone b _ (Nat.le_refl _) (hI.putObj _ hi (by omega) hr rfl) (put _ hr hd).2⟩
    · exact ⟨some c, _, run_endLoop (P := P) hr (by simp [r]), hstop b c pre _ (Nat.le_refl _) hp ((hIx c).putObj _ hi (by omega) hr rfl) (put _ hr hd).2⟩
end
end Go.Proofs.YthgbncpiehcghaaGreatDoor
