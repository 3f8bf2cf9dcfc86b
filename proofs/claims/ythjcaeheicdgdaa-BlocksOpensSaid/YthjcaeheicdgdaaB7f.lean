/- WALKS OF LAYER 7, SIXTH PART: blocks.Cut: the blocks. -/
import Derived.Test.YthjcaeheicdgdaaB7e
namespace Go.Proofs.Ythjcaeheicdgdaa
open Go Go.RowKit Go.Shelf
attribute [local go_sem] Oper.semAt_some
set_option maxHeartbeats 1000000
set_option linter.unusedVariables false
/-- Block i of bytes. -/
def chk (xs : List Int) (i : Nat) : List Int := (xs.drop (512 * i)).take 512
/-- A ROW OF k SLICES OF THE CALL's OWN, each of which holds a block of xs and is the call's own. -/
def CL (W : World) (base : Nat) (v : Value) (k : Nat) (xs : List Int) : Prop :=
  ∃ vs : List Value, W.ownsRow base 26 1 v k vs ∧ ∀ i, i < k → ∃ u, vs[i]? = some u ∧ OBn W base 5 u 512 (chk xs i)
theorem CL.nil (W : World) (base : Nat) (xs : List Int) : CL W base (.slice none 0 0) 0 xs := ⟨[], World.ownsRow_nil _ _ _ _, fun i hi => absurd hi (Nat.not_lt_zero _)⟩
theorem row_block {w : World} {base size k : Nat} {e : TypeId} {v : Value} {xs : List Value} (h : w.ownsRow base e size v k xs) {g : Nat} (hg : v.ownBlock = some g) : ∃ cur, w.heap[g]? = some (.cells cur e (0, 0)) := by
  rcases h.2 with ⟨rfl, _⟩ | ⟨g', cap, cur, rfl, _, hh, _⟩
  · cases hg
  · cases hg
    exact ⟨cur, hh⟩
theorem row_kept {W W' : World} {base size k : Nat} {e : TypeId} {v : Value} {xs : List Value} {row : Option Nat} (h : W.ownsRow base e size v k xs) (hg : W.grownBy W' row) (hr : ∀ g, v.ownBlock = some g → row ≠ some g) : W'.ownsRow base e size v k xs :=
  h.kept hg (by
    rcases h.2 with ⟨rfl, _⟩ | ⟨g', cap, cur, rfl, _⟩
    · exact .inl rfl
    · exact .inr fun e' => hr g' rfl e'.symm)
theorem CL.kept {W W' : World} {base k : Nat} {v : Value} {xs : List Int} {row : Option Nat} (h : CL W base v k xs) (hg : W.grownBy W' row)
    (hr : ∀ g, row = some g → ∀ cur e, W.heap[g]? = some (.cells cur e (0, 0)) → e ≠ 26 ∧ e ≠ 5) : CL W' base v k xs := by
  obtain ⟨vs, h1, h2⟩ := h
  refine ⟨vs, row_kept h1 hg fun g hv he => ?_, fun i hi => ?_⟩
  · obtain ⟨cur, hc⟩ := row_block h1 hv
    exact (hr g he cur _ hc).1 rfl
  · obtain ⟨u, hu, ho⟩ := h2 i hi
    refine ⟨u, hu, row_kept ho hg fun g hv he => ?_⟩
    obtain ⟨cur, hc⟩ := row_block ho hv
    exact (hr g he cur _ hc).2 rfl
theorem CL.later {W W' : World} {base k : Nat} {v : Value} {xs : List Int} (h : CL W base v k xs) (hb : Below W.heap.size W W') : CL W' base v k xs := by
  obtain ⟨vs, h1, h2⟩ := h
  refine ⟨vs, ?_, fun i hi => ?_⟩
  · refine ⟨h1.1, ?_⟩
    rcases h1.2 with hl | ⟨g, cap, cur, rfl, hbg, hg, h3, h4, h5, h6⟩
    · exact .inl hl
    · exact .inr ⟨g, cap, cur, rfl, hbg, (hb.block g (World.ownsRow.lt h1 g rfl).2).trans hg, h3, h4, h5, h6⟩
  · obtain ⟨u, hu, ho⟩ := h2 i hi
    exact ⟨u, hu, ho.later hb⟩
theorem CL.more {W : World} {base base' k : Nat} {v : Value} {xs : List Int} (h : CL W base v k xs) (hb : base' ≤ base) : CL W base' v k xs := by
  have more : ∀ {e : TypeId} {u : Value} {n : Nat} {ys : List Value}, W.ownsRow base e 1 u n ys → W.ownsRow base' e 1 u n ys := fun h => by
    refine ⟨h.1, ?_⟩
    rcases h.2 with h0 | ⟨g, cap, cur, h1, h2, h3⟩
    · exact .inl h0
    · exact .inr ⟨g, cap, cur, h1, by omega, h3⟩
  obtain ⟨vs, h1, h2⟩ := h
  exact ⟨vs, more h1, fun i hi => by
    obtain ⟨u, hu, ho⟩ := h2 i hi
    exact ⟨u, hu, more ho⟩⟩
theorem info_sl : (Try.prog.info? 26).map (fun i => (i.zero, i.size, i.bytes)) = some (some (.slice none 0 0), 1, 24) := by kernel_rfl
/-- What l's box holds between two rounds. -/
def CutI (n₀ B : Nat) (xs : List Int) (pre : List Nat) (W : World) : Prop := ∃ v, Boxed W B 28 v ∧ CL W n₀ v pre.length xs
theorem CutI.own (n₀ B : Nat) (xs : List Int) : Own (CutI n₀ B xs) := by
  rintro s X Y row ⟨v, hv, hc⟩ hg hrow
  refine ⟨v, hv.kept hg (fun e' => ?_), hc.kept hg fun g e' cur e he => ?_⟩
  · obtain ⟨o, ho, hc⟩ := hrow B e'.symm
    rw [show X.heap[B]? = _ from hv] at ho; cases ho; cases hc
  · obtain ⟨o, ho, hc⟩ := hrow g e'
    rw [he] at ho; cases ho; cases hc
theorem CL.snoc {W1 w2 : World} {n₀ B k : Nat} {v v' u : Value} {vs : List Value} {xs : List Int} {tmp : Obj} (hrow : W1.ownsRow n₀ 26 1 v k vs)
    (hel : ∀ i, i < k → ∃ u, vs[i]? = some u ∧ OBn W1 n₀ 5 u 512 (chk xs i)) (hu : OBn W1 n₀ 5 u 512 (chk xs k))
    (hown' : (w2.setCell ⟨B, 0, none⟩ v').ownsRow n₀ 26 1 v' (k + 1) (vs ++ [u])) (hgrow : (W1.alloc tmp).grownBy w2 v.ownBlock) (hB : B < n₀) : CL (w2.setCell ⟨B, 0, none⟩ v') n₀ v' (k + 1) xs := by
  have hl : vs.length = k := by have := hrow.1; omega
  have keep : ∀ {y : Value} {ys : List Int}, OBn W1 n₀ 5 y 512 ys → OBn (w2.setCell ⟨B, 0, none⟩ v') n₀ 5 y 512 ys := fun {y ys} h => by
    refine own_other (row_kept (OBn.alloc h tmp) hgrow fun g hg he => ?_) hB
    obtain ⟨c1, e1⟩ := row_block h hg
    obtain ⟨c2, e2⟩ := row_block hrow he
    rw [e1] at e2
    have := congrArg (fun o : Option Obj => match o with | some (.cells _ t _) => t | _ => 0) e2
    exact absurd this (by show ¬ (5 = 26); decide)
  refine ⟨vs ++ [u], hown', fun i hi => ?_⟩
  by_cases hik : i < k
  · obtain ⟨y, hy, ho⟩ := hel i hik
    exact ⟨y, by rw [List.getElem?_append_left (by omega)]; exact hy, keep ho⟩
  · obtain rfl : i = k := by omega
    exact ⟨u, by simp [← hl], keep hu⟩
/-- The boxes that 'Chunk' lays. -/
def chunkW (v : Value) (w : World) : World := (w.alloc (.cells #[v] 26)).alloc (.cells #[.int .i64 512] 3)
def chunkV (w : World) : Value := .func (.func 22) #[] #[.pointer (some ⟨w.heap.size, 0, none⟩), .pointer (some ⟨w.heap.size + 1, 0, none⟩)]
set_option maxRecDepth 100000 in
theorem chunk_any (A : Option Addr) (n c : Nat) (w : World) :
    Calls Try.prog 21 #[.slice A n c, .int .i64 512] w fun e w' => e = .returned (chunkV w) ∧ w' = chunkW (.slice A n c) w := by
  go_enter Try.func21, Try.ntmps21
  go_wp2
  go_ret
  refine ⟨?_, rfl⟩
  unfold chunkV
  simp
theorem chunkW_T (v : Value) (w : World) (pre : List Nat) : ChkT w.heap.size (w.heap.size + 1) v pre (chunkW v w) := by
  have a := Boxed.new w 26 v
  have b := Boxed.new (w.alloc (.cells #[v] 26)) 3 (.int .i64 512)
  simp only [World.size_alloc] at b
  exact ⟨a.alloc _, b⟩
theorem chunkW_size (v : Value) (w : World) : (chunkW v w).heap.size = w.heap.size + 2 := by unfold chunkW; simp
theorem chunkW_below (x : Value) (w : World) {B : Nat} {v : World} (h : Below B v w) (hB : B ≤ w.heap.size) : Below B v (chunkW x w) := (h.alloc hB _).alloc (by simp; omega) _
theorem chunkW_box (x : Value) {w : World} {B : Nat} {t : TypeId} {v : Value} (h : Boxed w B t v) : Boxed (chunkW x w) B t v := (h.alloc _).alloc _
theorem ChkT.own (B B0 B1 : Nat) (v : Value) : OwnFrom B (ChkT B0 B1 v) :=
  Own.from (fun x X Y row hs hg hr => ⟨boxed_own B0 _ (fun _ : List Nat => v) x X Y row hs.1 hg hr, boxed_own B1 _ (fun _ : List Nat => .int .i64 512) x X Y row hs.2 hg hr⟩) _
theorem chk_others (A B : World) (h : ChkS A B) (k : Nat) (o : Obj) (hk : A.heap[k]? = some o) (ho : o.isCells = false) : B.heap[k]? = some o := by
  obtain ⟨m, rfl⟩ := h
  exact hk
theorem clone_row (b o : Nat) (xs : List Int) (x : Nat) (w : World) (ha : RB w w.heap.size (some ⟨b, o, none⟩) 512 (chk xs x)) :
    Calls Try.prog 20 #[.slice (some ⟨b, o, none⟩) 512 512] w fun e w' => ∃ A1 c1, e = .returned (.slice A1 512 c1) ∧ OBn w' w.heap.size 5 (.slice A1 512 c1) 512 (chk xs x) ∧ Below w.heap.size w w' :=
  (bclone_any _ 512 512 (chk xs x) w ha (by omega)).mono fun e w' ⟨v, he, ho, hb⟩ => by
    obtain ⟨A1, c1, rfl, _⟩ := ho.slice
    exact ⟨A1, c1, he, ho, hb⟩
theorem row_later {W W' : World} {base size k : Nat} {e : TypeId} {v : Value} {xs : List Value} (h : W.ownsRow base e size v k xs) (hb : Below W.heap.size W W') : W'.ownsRow base e size v k xs := by
  refine ⟨h.1, ?_⟩
  rcases h.2 with hl | ⟨g, cap, cur, rfl, hbg, hg, h3, h4, h5, h6⟩
  · exact .inl hl
  · exact .inr ⟨g, cap, cur, rfl, hbg, (hb.block g (World.ownsRow.lt h g rfl).2).trans hg, h3, h4, h5, h6⟩
theorem box_later {W W' : World} {B : Nat} {t : TypeId} {v : Value} (h : Boxed W B t v) (hb : Below W.heap.size W W') : Boxed W' B t v :=
  (hb.block B (by have := h; unfold Boxed at this; exact (Array.getElem?_eq_some_iff.1 this).1)).trans h
theorem below_others {W W' : World} (hb : Below W.heap.size W W') : KeepsOthers W W' := ⟨hb.size, fun k o hk _ => (hb.block k (Array.getElem?_eq_some_iff.1 hk).1).trans hk⟩
/-- ONE ROUND: a block's copy is laid behind l's row. -/
theorem cut_step (w W w1 : World) (B B0 B1 : Nat) (X v : Value) (vs : List Value) (xs : List Int) (pre : List Nat) (A1 : Option Addr) (c1 : Nat) (hBw : B = w.heap.size) (e0 : B < B0) (e1 : B0 < B + 3) (e2 : B < B1) (e3 : B1 < B + 3)
    (h4 : Boxed W B 28 v) (h5 : W.ownsRow (B + 3) 26 1 v pre.length vs) (hel : ∀ i, i < pre.length → ∃ u, vs[i]? = some u ∧ OBn W (B + 3) 5 u 512 (chk xs i))
    (h6 : Below B w W) (h7 : B + 3 ≤ W.heap.size) (hT : ChkT B0 B1 X pre W) (hlen : pre.length + 1 ≤ 100000) (x : Nat) (hx : pre.length = x)
    (ho1 : OBn w1 W.heap.size 5 (.slice A1 512 c1) 512 (chk xs x)) (hb1 : Below W.heap.size W w1) :
    ∃ g c w2, (Builtin.append_ #[28, 28] 28 #[v, .slice (some ⟨w1.heap.size, 0, none⟩) 1 1]).run Try.prog (w1.alloc (.cells #[.slice A1 512 c1] 26)) = .ok (.slice (some ⟨g, 0, none⟩) (x + 1) c) w2 ∧
      w2.cell? ⟨B, 0, none⟩ = some v ∧ w2.frozen? ⟨B, 0, none⟩ = false ∧ w1.cell? ⟨B, 0, none⟩ = some v ∧ (w1.alloc (.cells #[.slice A1 512 c1] 26)).cell? ⟨B, 0, none⟩ = some v ∧
      Hid (KeepsOthers W (w2.setCell ⟨B, 0, none⟩ (.slice (some ⟨g, 0, none⟩) (x + 1) c)) ∧ ChkT B0 B1 X pre (w2.setCell ⟨B, 0, none⟩ (.slice (some ⟨g, 0, none⟩) (x + 1) c)) ∧
        CutI (B + 3) B xs (pre ++ [x]) (w2.setCell ⟨B, 0, none⟩ (.slice (some ⟨g, 0, none⟩) (x + 1) c)) ∧ Below B w (w2.setCell ⟨B, 0, none⟩ (.slice (some ⟨g, 0, none⟩) (x + 1) c)) ∧
        B + 3 ≤ (w2.setCell ⟨B, 0, none⟩ (.slice (some ⟨g, 0, none⟩) (x + 1) c)).heap.size) := by
  obtain ⟨i0, hi, hz0, hz1, hz2⟩ := info_parts info_sl
  subst hx
  have k4 := box_later h4 hb1
  have k5 := row_later h5 hb1
  have kel : ∀ i, i < pre.length → ∃ u, vs[i]? = some u ∧ OBn w1 (B + 3) 5 u 512 (chk xs i) := fun i hi => by
    obtain ⟨u, hu, ho⟩ := hel i hi
    exact ⟨u, hu, ho.later hb1⟩
  have ku : OBn w1 (B + 3) 5 (.slice A1 512 c1) 512 (chk xs pre.length) := row_more ho1 h7
  have hs1 := hb1.size
  obtain ⟨v2, w2, hrun, hown, hgrow, _⟩ := run_append_own (P := Try.prog) (w := w1.alloc (.cells #[.slice A1 512 c1] 26)) (B + 3) 28 28 26 i0 (.slice none 0 0) 1 24 Try.underlying28 hi hz0 hz1 hz2 rfl (by decide)
    v pre.length vs (k5.alloc _) ⟨w1.heap.size, 0, none⟩ 1 1 [.slice A1 512 c1] rfl (cell_one_new _ _ _) (one_one rfl) (by unfold maxLen; omega) (by omega) (by simp; omega)
  obtain ⟨g', cap', rfl⟩ := ownsRow_succ hown
  obtain ⟨hv1, hv2, hr2, hk2, hb2, ho2, hz2⟩ := box_append (n₁ := B) k4 (by decide) k5 (by omega) (by omega) (by omega) hown hgrow
  have hb02 : Below B w w1 := h6.trans (hb1.mono (by omega))
  refine ⟨g', cap', w2, hrun, hv1.cell, hv1.frozen, k4.cell, (k4.alloc _).cell, ?_, ?_, ?_, ?_, ?_⟩
  · exact (below_others hb1).trans hk2
  · exact ⟨ho2 _ _ _ (box_later hT.1 hb1) (by omega) (by omega), ho2 _ _ _ (box_later hT.2 hb1) (by omega) (by omega)⟩
  · refine ⟨_, hv2, ?_⟩
    rw [List.length_append, List.length_singleton]
    exact CL.snoc k5 kel ku hr2 hgrow (by omega)
  · exact hb02.trans hb2
  · omega
/-- An append within a region that draws, inside a fence, by its run. -/
theorem append_in7 {F : Fence} {n : Nat} {P : Program} {ops : Array Oper} {o : Oper} {a : Act} {w : World} {K : Act → World → Prop} {Q : Exit → Act → World → Prop} {E : Prop} (hgd : o.guard = none) (s x : Operand) (t tn : TypeId)
    (ho : o.op = .call { callee := .builtin .append, args := #[s, x], argTypes := #[t, tn] }) (vs vx : Value) (hs : a.eval s = vs) (hx : a.eval x = vx)
    (v' : Value) (w' : World) (hr : (Builtin.append_ #[t, tn] o.type #[vs, vx]).run P w = .ok v' w') (h : K (a.put o.dst v') w') :
    if Region.wanted o (yielded ops a.tmps) = true then o.wpIn F n P a w K Q else E := by
  rw [if_pos (by unfold Region.wanted; rw [hgd])]
  unfold Oper.wpIn
  refine ⟨by simp [Oper.about, ho, resolve, Target.leads, Sem.run_pure], ?_⟩
  rw [Oper.semAt_plain F _ _ (by rw [ho]; intro c hc'; cases hc')]
  simp [execOp, ho, resolve, invoke, builtin, hs, hx, hr, Result.andThen]
  exact h
/-- What 'Cut' answers. -/
def cutE (n : Nat) : Int := if n % 512 = 0 then 0 else 4
def cutN (n : Nat) : Nat := if n % 512 = 0 then n / 512 else 0
set_option maxRecDepth 100000 in
theorem cut_any7 (A : Option Addr) (n c : Nat) (xs : List Int) (w : World) (ha : RB w w.heap.size A n xs) (hc : n ≤ c) (hc2 : c ≤ maxLen) (hn : n ≤ 900000) :
    Calls Try.prog 13 #[.slice A n c] w fun e w' => ∃ v, e = .returned (.tuple #[v, .int .i64 (cutE n)]) ∧ CL w' w.heap.size v (cutN n) xs ∧ Below w.heap.size w w' := by
  obtain ⟨i0, hi, hz0, hz1, hz2⟩ := info_parts info_sl
  have hro : Fence.wide.round = none := rfl
  have t2 := Bk.tm (n := (n : Int)) (by omega)
  refine (callsIn_wide (n := 9)).1 ?_
  refine callsIn_of_wp_marks Try.func13 rfl trivial ?_ rfl
  simp only [Try.ntmps13, List.size_toArray, List.length_cons, List.length_nil, Nat.reduceAdd, Nat.reduceSub, Array.replicate_succ, Array.replicate_zero, List.push_toArray, List.append_toArray, List.nil_append, List.cons_append]
  by_cases h0 : n % 512 = 0
  · have E : Hid (cutE n = 0 ∧ cutN n = n / 512) := ⟨if_pos h0, if_pos h0⟩
    obtain ⟨q, hq⟩ : ∃ q, n / 512 = q := ⟨_, rfl⟩
    have hnq : n = 512 * q := by omega
    rw [show (n : Int) % 512 = 0 from by omega] at t2
    rw [hq] at E
    obtain ⟨b, o, hA⟩ : ∃ b o, 0 < q → A = some ⟨b, o, none⟩ := by
      by_cases hq0 : 0 < q
      · obtain ⟨b, o, e, _⟩ := ha.2 (by omega)
        exact ⟨b, o, fun _ => e⟩
      · exact ⟨0, 0, fun h => absurd h hq0⟩
    have IT := Lib.hid (fun B0 B1 => chunk_iter 8 (by omega) B0 B1 A b o q n c hA hnq hc (by omega))
    have HQ := Lib.hid hnq; have HA := Lib.hid hA; have HRB := Lib.hid ha
    clear h0 hq hnq hA ha
    gi_wp2_with (refine ⟨trivial, ?_⟩; gi_at_call 21; refine (callsIn_wide.2 (chunk_any A n c _)).mono ?_; rintro e w' ⟨rfl, rfl⟩)
    obtain ⟨w0, hw0⟩ : ∃ w0, (w.alloc (.cells #[.slice none 0 0] 28)) = w0 := ⟨_, rfl⟩
    have hsz : w0.heap.size = w.heap.size + 1 := by rw [← hw0]; simp
    have hB0 : Below w.heap.size w w0 := by rw [← hw0]; exact (Below.refl _ w).alloc (Nat.le_refl _) _
    have x0 : Boxed w0 w.heap.size 28 (.slice none 0 0) := by rw [← hw0]; exact Boxed.new w _ _
    rw [hw0]
    have hWs := chunkW_size (.slice A n c) w0
    refine range_gives hro (by omega) (gf := 22) (lb := #[.pointer (some ⟨w0.heap.size, 0, none⟩), .pointer (some ⟨w0.heap.size + 1, 0, none⟩)]) rfl trivial (enters_of Try.func22 (by kernel_rfl) rfl) (fun _ => rfl)
      (IT.out w0.heap.size (w0.heap.size + 1))
      (fun pre W => CutI (w.heap.size + 3) w.heap.size xs pre W ∧ Below w.heap.size w W ∧ w.heap.size + 3 ≤ W.heap.size)
      (fun _ _ _ => False)
      (ChkT.own _ _ _ _)
      (OwnFrom.and (Own.from (CutI.own _ _ _) _) (OwnFrom.and (ownFrom_below (Nat.le_refl _) (by omega)) (ownFrom_size _ _)))
      (fun c s W W' row h _ _ => h)
      ?closed chk_others (chunkW_T _ w0 _)
      ⟨⟨_, chunkW_box _ x0, CL.nil _ _ _⟩, chunkW_below _ w0 hB0 (by omega), by omega⟩
      (fun x => { tmps := #[.slice A n c, undef, .slice none 0 0, .int .i64 0, .pointer (some ⟨w.heap.size, 0, none⟩), .slice (some ⟨b, o + 512 * x, none⟩) 512 512, .slice A n c, .int .i64 n, .int .i64 0, .bool false, .slice A n c, chunkV w0, .slice (some ⟨b, o + 512 * x, none⟩) 512 512, undef, undef, undef, undef, undef, undef], defers := [] }) ?assign ?body ?done ?stop
    case closed =>
      rintro pre X Y ⟨m, rfl⟩ ⟨⟨v, h1, h2⟩, h6, h7⟩
      exact ⟨⟨v, h1, h2⟩, below_drewN h6 m, h7⟩
    case assign =>
      intro l x W K hK
      gi_wp2
      exact hK
    case body =>
      rintro l pre x W hx ⟨⟨v, h4, vs, h5, hel⟩, h6, h7⟩ hT
      have hxk : pre.length = x ∧ x < q := by
        have h := List.prefix_iff_eq_take.1 hx
        rw [List.length_append, List.length_singleton, List.take_range] at h
        have hl := congrArg List.length h
        simp at hl
        rw [Nat.min_eq_left (by omega), List.range_succ] at h
        have := List.append_inj' h rfl
        simp at this
        omega
      obtain ⟨hx1, hx2⟩ := hxk
      have hA := HA.out (by omega)
      have hr : RB W W.heap.size (some ⟨b, o + 512 * x, none⟩) 512 (chk xs x) := by
        have := (HRB.out.below h6).more h6.size
        rw [hA] at this
        exact (this.back (k := 512 * x) (by have := HQ.out; omega)).front (k := 512) (by have := HQ.out; omega)
      have HR := Lib.hid hr
      have hc4 := h4.cell
      have hlen : pre.length + 1 ≤ 100000 := by have := HQ.out; omega
      have st := Lib.hid (fun w1 A1 c1 ho1 hb1 => cut_step w W w1 w.heap.size w0.heap.size (w0.heap.size + 1) (.slice A n c) v vs xs pre A1 c1 rfl (by omega) (by omega) (by omega) (by omega) h4 h5 hel h6 h7 hT hlen x hx1 ho1 hb1)
      have kc := Lib.hid (fun W' (h : RB W' W'.heap.size (some ⟨b, o + 512 * x, none⟩) 512 (chk xs x)) => clone_row _ _ xs x W' h)
      clear hr hx hT hA h5 hel
      gi_wp2
      refine wpIn_region_any (by kernel_rfl) ?_
      change wpAnyIn _ _ _ _ _ _ _ _ _ (World.drew _)
      refine wpAnyIn_ready (rs := [0, 1]) (by kernel_rfl) (by simp) ?_
      refine AllReadyIn.cons rfl (fun K hK => ?_) (AllReadyIn.cons rfl (fun K hK => ?_) AllReadyIn.nil)
      · go_simp; refine hK _ _ ?_; clear hK K
        refine wpAnyIn_ready (rs := [1]) (by kernel_rfl) (by simp) (AllReadyIn.cons rfl (fun K hK => ?_) AllReadyIn.nil)
        go_simp; refine hK _ _ ?_; clear hK K
        refine wpAnyIn_ready (rs := [2]) (by kernel_rfl) (by simp) (AllReadyIn.cons rfl (fun K hK => ?_) AllReadyIn.nil)
        go_simp; refine ⟨trivial, (CallsIn.inRound l (callsIn_wide.2 (kc.out W.drew (by exact HR.out)))).mono ?_⟩; rintro e w1 ⟨A1, c1, rfl, ho1, hb1⟩; obtain ⟨g, cg, w2, hrun, hcb, hfb, hca, hcc, hfin⟩ := st.out w1 A1 c1 ho1 (((Below.refl _ W).drew).trans hb1); refine hK _ _ ?_; clear hK K
        refine wpAnyIn_ready (rs := [3]) (by kernel_rfl) (by simp) (AllReadyIn.cons rfl (fun K hK => ?_) AllReadyIn.nil)
        go_simp; refine hK _ _ ?_; clear hK K
        refine wpAnyIn_ready (rs := [4]) (by kernel_rfl) (by simp) (AllReadyIn.cons rfl (fun K hK => append_in7 rfl _ _ 28 28 rfl _ _ rfl rfl _ _ hrun (hK _ _ ?_)) AllReadyIn.nil); refine wpAnyIn_ready (rs := [5]) (by kernel_rfl) (by simp) (AllReadyIn.cons rfl (fun K hK => ?_) AllReadyIn.nil); go_simp; refine hK _ _ ?_; clear hK; refine wpAnyIn_done (by kernel_rfl) ?_ _; exact ⟨hfin.out.1, hfin.out.2.1, hfin.out.2.2⟩
      · go_simp; refine hK _ _ ?_; clear hK K
        refine wpAnyIn_ready (rs := [0, 2]) (by kernel_rfl) (by simp) ?_
        refine AllReadyIn.cons rfl (fun K hK => ?_) (AllReadyIn.cons rfl (fun K hK => ?_) AllReadyIn.nil)
        · go_simp; refine hK _ _ ?_; clear hK K
          refine wpAnyIn_ready (rs := [2]) (by kernel_rfl) (by simp) (AllReadyIn.cons rfl (fun K hK => ?_) AllReadyIn.nil)
          go_simp; refine ⟨trivial, (CallsIn.inRound l (callsIn_wide.2 (kc.out W.drew (by exact HR.out)))).mono ?_⟩; rintro e w1 ⟨A1, c1, rfl, ho1, hb1⟩; obtain ⟨g, cg, w2, hrun, hcb, hfb, hca, hcc, hfin⟩ := st.out w1 A1 c1 ho1 (((Below.refl _ W).drew).trans hb1); refine hK _ _ ?_; clear hK K
          refine wpAnyIn_ready (rs := [3]) (by kernel_rfl) (by simp) (AllReadyIn.cons rfl (fun K hK => ?_) AllReadyIn.nil)
          go_simp; refine hK _ _ ?_; clear hK K
          refine wpAnyIn_ready (rs := [4]) (by kernel_rfl) (by simp) (AllReadyIn.cons rfl (fun K hK => append_in7 rfl _ _ 28 28 rfl _ _ rfl rfl _ _ hrun (hK _ _ ?_)) AllReadyIn.nil); refine wpAnyIn_ready (rs := [5]) (by kernel_rfl) (by simp) (AllReadyIn.cons rfl (fun K hK => ?_) AllReadyIn.nil); go_simp; refine hK _ _ ?_; clear hK; refine wpAnyIn_done (by kernel_rfl) ?_ _; exact ⟨hfin.out.1, hfin.out.2.1, hfin.out.2.2⟩
        · go_simp; refine ⟨trivial, (CallsIn.inRound l (callsIn_wide.2 (kc.out W.drew (by exact HR.out)))).mono ?_⟩; rintro e w1 ⟨A1, c1, rfl, ho1, hb1⟩; obtain ⟨g, cg, w2, hrun, hcb, hfb, hca, hcc, hfin⟩ := st.out w1 A1 c1 ho1 (((Below.refl _ W).drew).trans hb1); refine hK _ _ ?_; clear hK K
          refine wpAnyIn_ready (rs := [0, 3]) (by kernel_rfl) (by simp) ?_
          refine AllReadyIn.cons rfl (fun K hK => ?_) (AllReadyIn.cons rfl (fun K hK => ?_) AllReadyIn.nil)
          · go_simp; refine hK _ _ ?_; clear hK K
            refine wpAnyIn_ready (rs := [3]) (by kernel_rfl) (by simp) (AllReadyIn.cons rfl (fun K hK => ?_) AllReadyIn.nil)
            go_simp; refine hK _ _ ?_; clear hK K
            refine wpAnyIn_ready (rs := [4]) (by kernel_rfl) (by simp) (AllReadyIn.cons rfl (fun K hK => append_in7 rfl _ _ 28 28 rfl _ _ rfl rfl _ _ hrun (hK _ _ ?_)) AllReadyIn.nil); refine wpAnyIn_ready (rs := [5]) (by kernel_rfl) (by simp) (AllReadyIn.cons rfl (fun K hK => ?_) AllReadyIn.nil); go_simp; refine hK _ _ ?_; clear hK; refine wpAnyIn_done (by kernel_rfl) ?_ _; exact ⟨hfin.out.1, hfin.out.2.1, hfin.out.2.2⟩
          · go_simp; refine hK _ _ ?_; clear hK K
            refine wpAnyIn_ready (rs := [0]) (by kernel_rfl) (by simp) (AllReadyIn.cons rfl (fun K hK => ?_) AllReadyIn.nil)
            go_simp; refine hK _ _ ?_; clear hK K
            refine wpAnyIn_ready (rs := [4]) (by kernel_rfl) (by simp) (AllReadyIn.cons rfl (fun K hK => append_in7 rfl _ _ 28 28 rfl _ _ rfl rfl _ _ hrun (hK _ _ ?_)) AllReadyIn.nil); refine wpAnyIn_ready (rs := [5]) (by kernel_rfl) (by simp) (AllReadyIn.cons rfl (fun K hK => ?_) AllReadyIn.nil); go_simp; refine hK _ _ ?_; clear hK; refine wpAnyIn_done (by kernel_rfl) ?_ _; exact ⟨hfin.out.1, hfin.out.2.1, hfin.out.2.2⟩
    case done =>
      rintro D W hD ⟨⟨v, h4, hcl⟩, h6, h7⟩ hK
      have hc4 := h4.cell
      rw [List.length_range] at hcl
      have HCL := Lib.hid hcl; clear hcl
      gi_wp2
      refine ⟨by simp, .inl ⟨_, _, rfl, run_takeDeferred hK, ?_⟩⟩
      refine ⟨.tuple #[v, .int .i64 0], ?_, _, by rw [E.out.1], ?_, ?_⟩
      · simp [results, Try.f13, go_sem]
      · rw [E.out.2]
        exact (HCL.out.kept (grownBy_putObj' _ D (.deferred none)) fun g e' cur e he => by cases e'; rw [hK] at he; cases he).more (by omega)
      · exact h6.trans (belowK_b (w := w) (Nat.le_refl _) _ D _ (.deferred none) (by omega) hK rfl rfl)
    case stop =>
      rintro D c pre W hD hp hf
      exact hf.elim
  · have E : Hid (cutE n = 4 ∧ cutN n = 0) := ⟨if_neg h0, if_neg h0⟩
    obtain ⟨m, hm⟩ : ∃ m : Nat, n % 512 = m := ⟨_, rfl⟩
    rw [show (n : Int) % 512 = (m : Int) from by omega] at t2
    have t3 : IntKind.i64.wrap (m : Int) = m := IntWalk.i64_in _ (by omega)
    have g : ((m : Int) != 0) = true := by simp; omega
    clear h0 hm
    gi_wp2
    refine ⟨.tuple #[.slice none 0 0, .int .i64 4], ?_, _, by rw [E.out.1], by rw [E.out.2]; exact CL.nil _ _ _, Below.refl _ _⟩
    simp [results, Try.f13, go_sem]
end Go.Proofs.Ythjcaeheicdgdaa
