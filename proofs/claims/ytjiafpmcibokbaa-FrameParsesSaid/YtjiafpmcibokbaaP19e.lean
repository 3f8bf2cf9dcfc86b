/- LAYER 19, frame, fifth part: a datagram's head; Lay. -/
import Derived.Test.YtjiafpmcibokbaaP19d
import Derived.Test.YtjiafpmcibokbaaD18b
namespace Go.Proofs.Ytjiafpmcibokbaa
open Go Go.RowKit
set_option maxHeartbeats 2000000
set_option maxRecDepth 100000
set_option linter.unusedVariables false
attribute [-go_sem] loadCellsFrom storeCells Instr.build
attribute [local go_sem] storeCells_one storeCells_two loadCells_two
theorem conv_lit19 {W : World} {b n c : Nat} {cs : Array Value} (h : BX W b 5 cs) :
    ∃ W', (convert 28 28 (.slice (some ⟨b, 0, none⟩) n c)).run Try.prog W = .ok (.slice (some ⟨b, 0, none⟩) n c) W' ∧ Oth b W W' ∧ W'.heap[b]? = some (.cells cs 5 (cs.size, cs.size + 1)) := by
  have hsh : W.shape? b = some (5, cs.size) := by
    unfold World.shape?
    rw [show W.heap[b]? = _ from h]
  refine ⟨W.freeze ⟨b, cs.size, none⟩ 1, ?_, ?_, ?_⟩
  · simp [convert, run_underlying Try.underlying28, run_underlying Try.underlying5, markStringish, hsh]
  · unfold World.freeze
    rw [if_neg (by decide)]
    refine ⟨rfl, rfl, rfl, by simp, fun k _ hk => ?_⟩
    simp [Array.getElem?_modify, Ne.symm hk]
  · unfold World.freeze
    rw [if_neg (by decide)]
    have := h
    unfold BX at this
    simp [Array.getElem?_modify, this]
theorem rb_lit19 {W : World} {b : Nat} {xs : List Int} {fr : Nat × Nat} {B : Nat} (hB : b < B) (h : W.heap[b]? = some (.cells (xs.map (Value.int .u8)).toArray 5 fr)) : RB W B (some ⟨b, 0, none⟩) xs.length xs :=
  ⟨rfl, fun _ => ⟨b, 0, rfl, hB, fun j hj => by
    rw [cell_of_row W b (0 + j) _ 5 fr h]
    simp [List.getD, hj]⟩⟩
/-- An append onto a slice that reads so and has no room. -/
theorem app_new19 {w : World} {base B1 B2 n m c : Nat} {a b : Addr} {xs ys : List Int} (hx : RB w B1 (some a) n xs) (hy : RB w B2 (some b) m ys) (hn0 : 0 < n) (hm0 : 0 < m) (hm : n + m ≤ 1000000) (hb : base ≤ w.heap.size) :
    ∃ v' w', (Builtin.append_ #[28, 28] 28 #[.slice (some a) n n, .slice (some b) m c]).run Try.prog w = .ok v' w' ∧ OBn w' base 5 v' (n + m) (xs ++ ys) ∧ Below base w w' ∧ KU w w' := by
  obtain ⟨i0, hi, hz0, hz1, hz2⟩ := info_parts info_u8
  obtain ⟨bx, ox, ex, _, _⟩ := hx.at_ hn0
  obtain ⟨b_, oy, ey, _, _⟩ := hy.at_ hm0
  cases ex
  cases ey
  have hr := run_append_grow (P := Try.prog) w 28 28 5 i0 (.int .u8 0) Try.underlying28 hi hz0 ⟨bx, ox, none⟩ n n (xs.map (Value.int .u8)) (by simp [hx.1, hz1]) hx.news ⟨b_, oy, none⟩ m c (ys.map (Value.int .u8)) (by simp [hy.1, hz1]) hy.news (by omega) (by omega) (growslice_fits (by omega) (by rw [hz2]; omega))
  have hge := grownCap_ge w (n + m) n 5
  have hcm : grownCap w (n + m) n 5 ≤ maxLen := grownCap_le_maxLen w (n + m) n 5 (by unfold maxLen; omega)
  have hxl := hx.1
  have hyl := hy.1
  have hl : (xs ++ ys).length = n + m := by rw [List.length_append, hxl, hyl]
  refine ⟨_, _, hr, ?_, ?_, ?_⟩
  · refine ⟨by rw [List.length_map, hl, Nat.mul_one], .inr ⟨w.heap.size, _, _, rfl, hb, heap_alloc_new w.drew _, hge, hcm, ?_, ?_⟩⟩
    · have hzc : (Value.int IntKind.u8 0).cells = #[Value.int .u8 0] := rfl
      rw [hzc]; simp [size_zeroCells, hxl, hyl]; omega
    · simp only [Array.toList_append, List.append_assoc]
      rw [← List.append_assoc, ← List.map_append, Nat.mul_one]
      exact List.take_left' (by rw [List.length_map, hl])
  · exact (Below.refl base w).drew.alloc hb _
  · exact ((KU.refl w) : KU w w.drew).alloc _
theorem lit_app19 {W1 W : World} {B1 B2 c : Nat} {x y : Addr} {xs ys : List Int} (h1 : Below W1.heap.size W1 W) (hk : KU W1 W) (hx : RB W B1 (some x) 2 xs) (hy : RB W B2 (some y) 2 ys) :
    ∃ v z, (Builtin.append_ #[28, 28] 28 #[.slice (some x) 2 2, .slice (some y) 2 c]).run Try.prog W = .ok v z ∧ OBn z W1.heap.size 5 v 4 (xs ++ ys) ∧ Below W1.heap.size W1 z ∧ KU W1 z := by
  obtain ⟨v, z, hr, ho, hb, hu⟩ := app_new19 (base := W1.heap.size) (c := c) hx hy (by omega) (by omega) (by omega) h1.size
  exact ⟨v, z, hr, ho, h1.trans hb, hk.trans hu⟩
theorem lit_conv19 {W1 W : World} {b n c : Nat} {cs : Array Value} (hb : W1.heap.size ≤ b) (h : BX W b 5 cs) (h1 : Below W1.heap.size W1 W) (hk : KU W1 W) :
    ∃ V, (convert 28 28 (.slice (some ⟨b, 0, none⟩) n c)).run Try.prog W = .ok (.slice (some ⟨b, 0, none⟩) n c) V ∧ Below W1.heap.size W1 V ∧ KU W1 V ∧ W.heap.size ≤ V.heap.size ∧ V.heap[b]? = some (.cells cs 5 (cs.size, cs.size + 1)) ∧ ∀ k, k < W.heap.size → k ≠ b → V.heap[k]? = W.heap[k]? := by
  obtain ⟨V, cv, ot, hp⟩ := conv_lit19 (n := n) (c := c) h
  refine ⟨V, cv, h1.trans (ot.below hb h1.size), hk.trans fun k T cs' hT hb' => hb'.oth ot (fun e => ?_), ot.2.2.2.1, hp, ot.2.2.2.2⟩
  subst e
  unfold BX at hb' h
  rw [h] at hb'
  cases hb'
  exact hT rfl
theorem hf_lt {W : World} {b : Nat} {o : Obj} (h : W.heap[b]? = some o) : b < W.heap.size := (Array.getElem?_eq_some_iff.1 h).1
theorem hf_alloc {W : World} {b : Nat} {o : Obj} (h : W.heap[b]? = some o) (x : Obj) : (W.alloc x).heap[b]? = some o := (heap_alloc_old W x (hf_lt h)).trans h
theorem hf_later {W W' : World} {b : Nat} {o : Obj} (h : W.heap[b]? = some o) (hb : Below W.heap.size W W') : W'.heap[b]? = some o := (hb.block b (hf_lt h)).trans h
theorem hf_conv {W V : World} {b k : Nat} {o : Obj} (h : W.heap[k]? = some o) (hne : k ≠ b) (ot : ∀ k, k < W.heap.size → k ≠ b → V.heap[k]? = W.heap[k]?) : V.heap[k]? = some o := (ot k (hf_lt h) hne).trans h
theorem layhead_any19 (f : Fm.Fr) (w : World) (hl : f.ln) (hk : 0 ≤ f.k ∧ f.k ≤ 255) (hs : f.s < 4294967296) (hr : f.r < 4294967296) :
    Calls Try.prog 23 #[.agg (Fm.FC f)] w fun e w' => ∃ v', e = .returned v' ∧ OBn w' (w.heap.size + 1) 5 v' 28 (Fm.head f) ∧ Below w.heap.size w w' ∧ KU w w' := by
  have bF := BX.new w 42 (Fm.FC f)
  have hq := FB.of bF hl
  have c0 := hq.c0
  have c17 := hq.c17
  have c18 := hq.c18
  have HB := Lib.hid ((Below.refl w.heap.size w).alloc (Nat.le_refl _) (.cells (Fm.FC f) 42))
  have HK := Lib.hid ((KU.refl w).alloc (.cells (Fm.FC f) 42))
  have hwk : IntKind.u8.wrap f.k = f.k := by rw [IntKind.wrap_u8]; omega
  obtain ⟨W1, hW1⟩ : ∃ W, w.alloc (.cells (Fm.FC f) 42) = W := ⟨_, rfl⟩
  have SZ := Lib.hid (show W1.heap.size = w.heap.size + 1 by rw [← hW1, World.size_alloc])
  rw [hW1] at c0 c17 c18 HB bF HK
  have FK := Lib.hid (fun W (h : Below W1.heap.size W1 W) => show W.cell? ⟨w.heap.size, 0, none⟩ = some (.int .i64 f.k) ∧ W.cell? ⟨w.heap.size, 17, none⟩ = some (.int .u32 (f.s : Int)) ∧ W.cell? ⟨w.heap.size, 18, none⟩ = some (.int .u32 (f.r : Int)) from ⟨(FB.of (bF.later h) hl).c0, (FB.of (bF.later h) hl).c17, (FB.of (bF.later h) hl).c18⟩)
  have BF := Lib.hid bF
  clear hq bF
  go_enter Try.func23, Try.ntmps23
  go_upto_region 1 with (fail)
  try rw [hW1]
  clear hW1
  go_cut [3] (fun v wx => Hid (OBn wx W1.heap.size 5 v 4 [84, 87, f.k, (Dl.mark f.s f.r : Nat)]) ∧ Hid (Below w.heap.size w wx ∧ KU W1 wx))
  case first =>
    have hacc : Below W1.heap.size W1 W1 := Below.refl _ _
    have S0 := Lib.hid (show Below W1.heap.size W1 W1.drew from (Below.refl _ _).drew)
    have K0 := Lib.hid (show KU W1 W1.drew from KU.refl W1)
    refine wp_region_held_drew (S := fun W => Below W1.heap.size W1 W) (by kernel_rfl) S0.out (fun hS => ?_)
    refine wpAnyH_take (i := 2) (v := .pointer (some ⟨w.heap.size, 0, none⟩)) rfl (by kernel_rfl) (by kernel_rfl) (by kernel_rfl) (fun _ _ _ h => h) (Or.inl ⟨by kernel_rfl, fun W hW => by obtain ⟨z0, z17, z18⟩ := FK.out W hW; go_simp⟩) hS ?_
    refine wpAnyH_take (i := 3) (v := .int .i64 f.k) rfl (by kernel_rfl) (by kernel_rfl) (by kernel_rfl) (fun _ _ _ h => h) (Or.inl ⟨by kernel_rfl, fun W hW => by obtain ⟨z0, z17, z18⟩ := FK.out W hW; go_simp⟩) hS ?_
    refine wpAnyH_take (i := 4) (v := .int .u8 f.k) rfl (by kernel_rfl) (by kernel_rfl) (by kernel_rfl) (fun _ _ _ h => h) (Or.inl ⟨by kernel_rfl, fun W hW => by obtain ⟨z0, z17, z18⟩ := FK.out W hW; go_simp⟩) hS ?_
    refine wpAnyH_take (i := 5) (v := .pointer (some ⟨w.heap.size, 17, none⟩)) rfl (by kernel_rfl) (by kernel_rfl) (by kernel_rfl) (fun _ _ _ h => h) (Or.inl ⟨by kernel_rfl, fun W hW => by obtain ⟨z0, z17, z18⟩ := FK.out W hW; go_simp⟩) hS ?_
    refine wpAnyH_take (i := 6) (v := .agg #[.int .u32 (f.s : Int), .int .u32 (f.r : Int)]) rfl (by kernel_rfl) (by kernel_rfl) (by kernel_rfl) (fun _ _ _ h => h) (Or.inl ⟨by kernel_rfl, fun W hW => by obtain ⟨z0, z17, z18⟩ := FK.out W hW; go_simp⟩) hS ?_
    clear c0 c17 c18 hS
    refine wpAnyH_ready (rs := [0, 7]) (by kernel_rfl) (by simp) ?_
    refine AllReadyH.cons rfl (fun K hK => ?_) (AllReadyH.cons rfl (fun K hK => ?_) AllReadyH.nil)
    · skip
      rw [if_pos (by kernel_rfl)]
      go_simp
      have s1 := Lib.hid (show Below W1.heap.size W1 ((W1.alloc (.cells #[.int .u8 84, .int .u8 87] 5)).drew) from S0.out.alloc S0.out.size (.cells #[.int .u8 84, .int .u8 87] 5))
      have k1 := Lib.hid (show KU W1 ((W1.alloc (.cells #[.int .u8 84, .int .u8 87] 5)).drew) from K0.out.alloc (.cells #[.int .u8 84, .int .u8 87] 5))
      have b1 := Lib.hid (show ((W1.alloc (.cells #[.int .u8 84, .int .u8 87] 5)).drew).heap[W1.heap.size]? = some (.cells #[.int .u8 84, .int .u8 87] 5) from by have h := heap_alloc_new W1.drew (.cells #[.int .u8 84, .int .u8 87] 5); (try rw [World.size_alloc] at h); exact h)
      refine hK.out _ _ s1.out (fun hS1 => ?_)
      clear hK K
      try simp only [Act.put, List.setIfInBounds_toArray, List.set_cons_zero, List.set_cons_succ]
      refine wpAnyH_ready (rs := [1, 7]) (by kernel_rfl) (by simp) ?_
      refine AllReadyH.cons rfl (fun K hK => ?_) (AllReadyH.cons rfl (fun K hK => ?_) AllReadyH.nil)
      · skip
        obtain ⟨V2, cv2, hv2, kv2, sv2, hp2, ot2⟩ := lit_conv19 (W1 := W1) (n := 2) (c := 2) (b := W1.heap.size) (by have h := S0.out.size; (try rw [World.size_alloc] at h); exact h) b1.out s1.out k1.out
        rw [if_pos (by kernel_rfl)]
        go_simp
        have s2 := Lib.hid hv2
        have k2 := Lib.hid kv2
        have x2 := Lib.hid hp2
        refine hK.out _ _ s2.out (fun hS2 => ?_)
        clear hv2 kv2 sv2 hp2 ot2 cv2
        clear hK K
        try simp only [Act.put, List.setIfInBounds_toArray, List.set_cons_zero, List.set_cons_succ]
        refine wpAnyH_ready (rs := [7]) (by kernel_rfl) (by simp) ?_
        refine AllReadyH.cons rfl (fun K hK => ?_) AllReadyH.nil
        rw [if_pos (by kernel_rfl)]
        go_simp
        go_at_call 43
        (with_reducible refine (mark_any f.s f.r _).mono ?_)
        rintro e m3 ⟨rfl, hb3⟩
        have s3 := Lib.hid (s2.out.trans (hb3.mono s2.out.size))
        have k3 := Lib.hid (k2.out.ofBelow hb3)
        have x3 := Lib.hid (hf_later x2.out hb3)
        clear hb3
        refine hK.out _ _ s3.out (fun hS3 => ?_)
        clear hK K
        try simp only [Act.put, List.setIfInBounds_toArray, List.set_cons_zero, List.set_cons_succ]
        refine wpAnyH_ready (rs := [8]) (by kernel_rfl) (by simp) ?_
        refine AllReadyH.cons rfl (fun K hK => ?_) AllReadyH.nil
        rw [if_pos (by kernel_rfl)]
        go_simp
        have s4 := Lib.hid (show Below W1.heap.size W1 (m3.alloc (.cells #[.int .u8 f.k, .int .u8 (Dl.mark f.s f.r : Nat)] 5)) from s3.out.alloc s3.out.size (.cells #[.int .u8 f.k, .int .u8 (Dl.mark f.s f.r : Nat)] 5))
        have k4 := Lib.hid (show KU W1 (m3.alloc (.cells #[.int .u8 f.k, .int .u8 (Dl.mark f.s f.r : Nat)] 5)) from k3.out.alloc (.cells #[.int .u8 f.k, .int .u8 (Dl.mark f.s f.r : Nat)] 5))
        have b4 := Lib.hid (show (m3.alloc (.cells #[.int .u8 f.k, .int .u8 (Dl.mark f.s f.r : Nat)] 5)).heap[m3.heap.size]? = some (.cells #[.int .u8 f.k, .int .u8 (Dl.mark f.s f.r : Nat)] 5) from by have h := heap_alloc_new m3 (.cells #[.int .u8 f.k, .int .u8 (Dl.mark f.s f.r : Nat)] 5); (try rw [World.size_alloc] at h); exact h)
        have y4 := Lib.hid (hf_alloc x3.out (.cells #[.int .u8 f.k, .int .u8 (Dl.mark f.s f.r : Nat)] 5))
        refine hK.out _ _ s4.out (fun hS4 => ?_)
        clear hK K
        try simp only [Act.put, List.setIfInBounds_toArray, List.set_cons_zero, List.set_cons_succ]
        refine wpAnyH_ready (rs := [9]) (by kernel_rfl) (by simp) ?_
        refine AllReadyH.cons rfl (fun K hK => ?_) AllReadyH.nil
        obtain ⟨v5, z5, run5, own5, bel5, ku5⟩ := lit_app19 (c := 2) s4.out k4.out (rb_lit19 (xs := [84, 87]) (hf_lt y4.out) y4.out) (rb_lit19 (xs := [f.k, (Dl.mark f.s f.r : Nat)]) (hf_lt b4.out) b4.out)
        have o5 := Lib.hid own5
        have s5 := Lib.hid bel5
        have k5 := Lib.hid ku5
        refine step_append_run19 rfl (.tmp 5) (.tmp 12) 28 28 rfl _ _ (by simp [Act.eval]) (by simp [Act.eval]) run5 ?_
        clear run5 own5 bel5 ku5
        refine hK.out (Act.put _ (some 13) v5) _ s5.out (fun hS5 => ?_)
        clear hK K
        try simp only [Act.put, List.setIfInBounds_toArray, List.set_cons_zero, List.set_cons_succ]
        refine wpAnyH_take (i := 10) (v := v5) rfl (by kernel_rfl) (by kernel_rfl) (by kernel_rfl) (fun _ _ _ h => h) (Or.inl ⟨by kernel_rfl, fun W hW => by go_simp⟩) s5.out ?_
        refine wpAnyH_done (by kernel_rfl) ?_ _
        change (Exit.then _ _) Exit.normal (Act.put _ (some 3) v5) _
        try simp only [Act.put, List.setIfInBounds_toArray, List.set_cons_zero, List.set_cons_succ]
        try go_wp2
        go_meet
        exact ⟨o5.out, HB.out.trans (s5.out.mono (by rw [SZ.out]; exact Nat.le_succ _)), k5.out⟩
      · skip
        rw [if_pos (by kernel_rfl)]
        go_simp
        go_at_call 43
        (with_reducible refine (mark_any f.s f.r _).mono ?_)
        rintro e m6 ⟨rfl, hb6⟩
        have s6 := Lib.hid (s1.out.trans (hb6.mono s1.out.size))
        have k6 := Lib.hid (k1.out.ofBelow hb6)
        have x6 := Lib.hid (hf_later b1.out hb6)
        clear hb6
        refine hK.out _ _ s6.out (fun hS6 => ?_)
        clear hK K
        try simp only [Act.put, List.setIfInBounds_toArray, List.set_cons_zero, List.set_cons_succ]
        refine wpAnyH_ready (rs := [1, 8]) (by kernel_rfl) (by simp) ?_
        refine AllReadyH.cons rfl (fun K hK => ?_) (AllReadyH.cons rfl (fun K hK => ?_) AllReadyH.nil)
        · skip
          obtain ⟨V7, cv7, hv7, kv7, sv7, hp7, ot7⟩ := lit_conv19 (W1 := W1) (n := 2) (c := 2) (b := W1.heap.size) (by have h := S0.out.size; (try rw [World.size_alloc] at h); exact h) x6.out s6.out k6.out
          rw [if_pos (by kernel_rfl)]
          go_simp
          have s7 := Lib.hid hv7
          have k7 := Lib.hid kv7
          have x7 := Lib.hid hp7
          refine hK.out _ _ s7.out (fun hS7 => ?_)
          clear hv7 kv7 sv7 hp7 ot7 cv7
          clear hK K
          try simp only [Act.put, List.setIfInBounds_toArray, List.set_cons_zero, List.set_cons_succ]
          refine wpAnyH_ready (rs := [8]) (by kernel_rfl) (by simp) ?_
          refine AllReadyH.cons rfl (fun K hK => ?_) AllReadyH.nil
          rw [if_pos (by kernel_rfl)]
          go_simp
          have s8 := Lib.hid (show Below W1.heap.size W1 (V7.alloc (.cells #[.int .u8 f.k, .int .u8 (Dl.mark f.s f.r : Nat)] 5)) from s7.out.alloc s7.out.size (.cells #[.int .u8 f.k, .int .u8 (Dl.mark f.s f.r : Nat)] 5))
          have k8 := Lib.hid (show KU W1 (V7.alloc (.cells #[.int .u8 f.k, .int .u8 (Dl.mark f.s f.r : Nat)] 5)) from k7.out.alloc (.cells #[.int .u8 f.k, .int .u8 (Dl.mark f.s f.r : Nat)] 5))
          have b8 := Lib.hid (show (V7.alloc (.cells #[.int .u8 f.k, .int .u8 (Dl.mark f.s f.r : Nat)] 5)).heap[V7.heap.size]? = some (.cells #[.int .u8 f.k, .int .u8 (Dl.mark f.s f.r : Nat)] 5) from by have h := heap_alloc_new V7 (.cells #[.int .u8 f.k, .int .u8 (Dl.mark f.s f.r : Nat)] 5); (try rw [World.size_alloc] at h); exact h)
          have y8 := Lib.hid (hf_alloc x7.out (.cells #[.int .u8 f.k, .int .u8 (Dl.mark f.s f.r : Nat)] 5))
          refine hK.out _ _ s8.out (fun hS8 => ?_)
          clear hK K
          try simp only [Act.put, List.setIfInBounds_toArray, List.set_cons_zero, List.set_cons_succ]
          refine wpAnyH_ready (rs := [9]) (by kernel_rfl) (by simp) ?_
          refine AllReadyH.cons rfl (fun K hK => ?_) AllReadyH.nil
          obtain ⟨v9, z9, run9, own9, bel9, ku9⟩ := lit_app19 (c := 2) s8.out k8.out (rb_lit19 (xs := [84, 87]) (hf_lt y8.out) y8.out) (rb_lit19 (xs := [f.k, (Dl.mark f.s f.r : Nat)]) (hf_lt b8.out) b8.out)
          have o9 := Lib.hid own9
          have s9 := Lib.hid bel9
          have k9 := Lib.hid ku9
          refine step_append_run19 rfl (.tmp 5) (.tmp 12) 28 28 rfl _ _ (by simp [Act.eval]) (by simp [Act.eval]) run9 ?_
          clear run9 own9 bel9 ku9
          refine hK.out (Act.put _ (some 13) v9) _ s9.out (fun hS9 => ?_)
          clear hK K
          try simp only [Act.put, List.setIfInBounds_toArray, List.set_cons_zero, List.set_cons_succ]
          refine wpAnyH_take (i := 10) (v := v9) rfl (by kernel_rfl) (by kernel_rfl) (by kernel_rfl) (fun _ _ _ h => h) (Or.inl ⟨by kernel_rfl, fun W hW => by go_simp⟩) s9.out ?_
          refine wpAnyH_done (by kernel_rfl) ?_ _
          change (Exit.then _ _) Exit.normal (Act.put _ (some 3) v9) _
          try simp only [Act.put, List.setIfInBounds_toArray, List.set_cons_zero, List.set_cons_succ]
          try go_wp2
          go_meet
          exact ⟨o9.out, HB.out.trans (s9.out.mono (by rw [SZ.out]; exact Nat.le_succ _)), k9.out⟩
        · skip
          rw [if_pos (by kernel_rfl)]
          go_simp
          have s10 := Lib.hid (show Below W1.heap.size W1 (m6.alloc (.cells #[.int .u8 f.k, .int .u8 (Dl.mark f.s f.r : Nat)] 5)) from s6.out.alloc s6.out.size (.cells #[.int .u8 f.k, .int .u8 (Dl.mark f.s f.r : Nat)] 5))
          have k10 := Lib.hid (show KU W1 (m6.alloc (.cells #[.int .u8 f.k, .int .u8 (Dl.mark f.s f.r : Nat)] 5)) from k6.out.alloc (.cells #[.int .u8 f.k, .int .u8 (Dl.mark f.s f.r : Nat)] 5))
          have b10 := Lib.hid (show (m6.alloc (.cells #[.int .u8 f.k, .int .u8 (Dl.mark f.s f.r : Nat)] 5)).heap[m6.heap.size]? = some (.cells #[.int .u8 f.k, .int .u8 (Dl.mark f.s f.r : Nat)] 5) from by have h := heap_alloc_new m6 (.cells #[.int .u8 f.k, .int .u8 (Dl.mark f.s f.r : Nat)] 5); (try rw [World.size_alloc] at h); exact h)
          have y10 := Lib.hid (hf_alloc x6.out (.cells #[.int .u8 f.k, .int .u8 (Dl.mark f.s f.r : Nat)] 5))
          refine hK.out _ _ s10.out (fun hS10 => ?_)
          clear hK K
          try simp only [Act.put, List.setIfInBounds_toArray, List.set_cons_zero, List.set_cons_succ]
          refine wpAnyH_ready (rs := [1]) (by kernel_rfl) (by simp) ?_
          refine AllReadyH.cons rfl (fun K hK => ?_) AllReadyH.nil
          obtain ⟨V11, cv11, hv11, kv11, sv11, hp11, ot11⟩ := lit_conv19 (W1 := W1) (n := 2) (c := 2) (b := W1.heap.size) (by have h := S0.out.size; (try rw [World.size_alloc] at h); exact h) y10.out s10.out k10.out
          rw [if_pos (by kernel_rfl)]
          go_simp
          have s11 := Lib.hid hv11
          have k11 := Lib.hid kv11
          have x11 := Lib.hid hp11
          have y11 := Lib.hid (hf_conv (k := m6.heap.size) (b := W1.heap.size) b10.out (by have h := hf_lt x6.out; (try rw [World.size_alloc] at h); omega) ot11)
          refine hK.out _ _ s11.out (fun hS11 => ?_)
          clear hv11 kv11 sv11 hp11 ot11 cv11
          clear hK K
          try simp only [Act.put, List.setIfInBounds_toArray, List.set_cons_zero, List.set_cons_succ]
          refine wpAnyH_ready (rs := [9]) (by kernel_rfl) (by simp) ?_
          refine AllReadyH.cons rfl (fun K hK => ?_) AllReadyH.nil
          obtain ⟨v12, z12, run12, own12, bel12, ku12⟩ := lit_app19 (c := 2) s11.out k11.out (rb_lit19 (xs := [84, 87]) (hf_lt x11.out) x11.out) (rb_lit19 (xs := [f.k, (Dl.mark f.s f.r : Nat)]) (hf_lt y11.out) y11.out)
          have o12 := Lib.hid own12
          have s12 := Lib.hid bel12
          have k12 := Lib.hid ku12
          refine step_append_run19 rfl (.tmp 5) (.tmp 12) 28 28 rfl _ _ (by simp [Act.eval]) (by simp [Act.eval]) run12 ?_
          clear run12 own12 bel12 ku12
          refine hK.out (Act.put _ (some 13) v12) _ s12.out (fun hS12 => ?_)
          clear hK K
          try simp only [Act.put, List.setIfInBounds_toArray, List.set_cons_zero, List.set_cons_succ]
          refine wpAnyH_take (i := 10) (v := v12) rfl (by kernel_rfl) (by kernel_rfl) (by kernel_rfl) (fun _ _ _ h => h) (Or.inl ⟨by kernel_rfl, fun W hW => by go_simp⟩) s12.out ?_
          refine wpAnyH_done (by kernel_rfl) ?_ _
          change (Exit.then _ _) Exit.normal (Act.put _ (some 3) v12) _
          try simp only [Act.put, List.setIfInBounds_toArray, List.set_cons_zero, List.set_cons_succ]
          try go_wp2
          go_meet
          exact ⟨o12.out, HB.out.trans (s12.out.mono (by rw [SZ.out]; exact Nat.le_succ _)), k12.out⟩
    · skip
      rw [if_pos (by kernel_rfl)]
      go_simp
      go_at_call 43
      (with_reducible refine (mark_any f.s f.r _).mono ?_)
      rintro e m13 ⟨rfl, hb13⟩
      have s13 := Lib.hid (S0.out.trans (hb13.mono S0.out.size))
      have k13 := Lib.hid (K0.out.ofBelow hb13)
      clear hb13
      refine hK.out _ _ s13.out (fun hS13 => ?_)
      clear hK K
      try simp only [Act.put, List.setIfInBounds_toArray, List.set_cons_zero, List.set_cons_succ]
      refine wpAnyH_ready (rs := [0, 8]) (by kernel_rfl) (by simp) ?_
      refine AllReadyH.cons rfl (fun K hK => ?_) (AllReadyH.cons rfl (fun K hK => ?_) AllReadyH.nil)
      · skip
        rw [if_pos (by kernel_rfl)]
        go_simp
        have s14 := Lib.hid (show Below W1.heap.size W1 (m13.alloc (.cells #[.int .u8 84, .int .u8 87] 5)) from s13.out.alloc s13.out.size (.cells #[.int .u8 84, .int .u8 87] 5))
        have k14 := Lib.hid (show KU W1 (m13.alloc (.cells #[.int .u8 84, .int .u8 87] 5)) from k13.out.alloc (.cells #[.int .u8 84, .int .u8 87] 5))
        have b14 := Lib.hid (show (m13.alloc (.cells #[.int .u8 84, .int .u8 87] 5)).heap[m13.heap.size]? = some (.cells #[.int .u8 84, .int .u8 87] 5) from by have h := heap_alloc_new m13 (.cells #[.int .u8 84, .int .u8 87] 5); (try rw [World.size_alloc] at h); exact h)
        refine hK.out _ _ s14.out (fun hS14 => ?_)
        clear hK K
        try simp only [Act.put, List.setIfInBounds_toArray, List.set_cons_zero, List.set_cons_succ]
        refine wpAnyH_ready (rs := [1, 8]) (by kernel_rfl) (by simp) ?_
        refine AllReadyH.cons rfl (fun K hK => ?_) (AllReadyH.cons rfl (fun K hK => ?_) AllReadyH.nil)
        · skip
          obtain ⟨V15, cv15, hv15, kv15, sv15, hp15, ot15⟩ := lit_conv19 (W1 := W1) (n := 2) (c := 2) (b := m13.heap.size) (by have h := s13.out.size; (try rw [World.size_alloc] at h); exact h) b14.out s14.out k14.out
          rw [if_pos (by kernel_rfl)]
          go_simp
          have s15 := Lib.hid hv15
          have k15 := Lib.hid kv15
          have x15 := Lib.hid hp15
          refine hK.out _ _ s15.out (fun hS15 => ?_)
          clear hv15 kv15 sv15 hp15 ot15 cv15
          clear hK K
          try simp only [Act.put, List.setIfInBounds_toArray, List.set_cons_zero, List.set_cons_succ]
          refine wpAnyH_ready (rs := [8]) (by kernel_rfl) (by simp) ?_
          refine AllReadyH.cons rfl (fun K hK => ?_) AllReadyH.nil
          rw [if_pos (by kernel_rfl)]
          go_simp
          have s16 := Lib.hid (show Below W1.heap.size W1 (V15.alloc (.cells #[.int .u8 f.k, .int .u8 (Dl.mark f.s f.r : Nat)] 5)) from s15.out.alloc s15.out.size (.cells #[.int .u8 f.k, .int .u8 (Dl.mark f.s f.r : Nat)] 5))
          have k16 := Lib.hid (show KU W1 (V15.alloc (.cells #[.int .u8 f.k, .int .u8 (Dl.mark f.s f.r : Nat)] 5)) from k15.out.alloc (.cells #[.int .u8 f.k, .int .u8 (Dl.mark f.s f.r : Nat)] 5))
          have b16 := Lib.hid (show (V15.alloc (.cells #[.int .u8 f.k, .int .u8 (Dl.mark f.s f.r : Nat)] 5)).heap[V15.heap.size]? = some (.cells #[.int .u8 f.k, .int .u8 (Dl.mark f.s f.r : Nat)] 5) from by have h := heap_alloc_new V15 (.cells #[.int .u8 f.k, .int .u8 (Dl.mark f.s f.r : Nat)] 5); (try rw [World.size_alloc] at h); exact h)
          have y16 := Lib.hid (hf_alloc x15.out (.cells #[.int .u8 f.k, .int .u8 (Dl.mark f.s f.r : Nat)] 5))
          refine hK.out _ _ s16.out (fun hS16 => ?_)
          clear hK K
          try simp only [Act.put, List.setIfInBounds_toArray, List.set_cons_zero, List.set_cons_succ]
          refine wpAnyH_ready (rs := [9]) (by kernel_rfl) (by simp) ?_
          refine AllReadyH.cons rfl (fun K hK => ?_) AllReadyH.nil
          obtain ⟨v17, z17, run17, own17, bel17, ku17⟩ := lit_app19 (c := 2) s16.out k16.out (rb_lit19 (xs := [84, 87]) (hf_lt y16.out) y16.out) (rb_lit19 (xs := [f.k, (Dl.mark f.s f.r : Nat)]) (hf_lt b16.out) b16.out)
          have o17 := Lib.hid own17
          have s17 := Lib.hid bel17
          have k17 := Lib.hid ku17
          refine step_append_run19 rfl (.tmp 5) (.tmp 12) 28 28 rfl _ _ (by simp [Act.eval]) (by simp [Act.eval]) run17 ?_
          clear run17 own17 bel17 ku17
          refine hK.out (Act.put _ (some 13) v17) _ s17.out (fun hS17 => ?_)
          clear hK K
          try simp only [Act.put, List.setIfInBounds_toArray, List.set_cons_zero, List.set_cons_succ]
          refine wpAnyH_take (i := 10) (v := v17) rfl (by kernel_rfl) (by kernel_rfl) (by kernel_rfl) (fun _ _ _ h => h) (Or.inl ⟨by kernel_rfl, fun W hW => by go_simp⟩) s17.out ?_
          refine wpAnyH_done (by kernel_rfl) ?_ _
          change (Exit.then _ _) Exit.normal (Act.put _ (some 3) v17) _
          try simp only [Act.put, List.setIfInBounds_toArray, List.set_cons_zero, List.set_cons_succ]
          try go_wp2
          go_meet
          exact ⟨o17.out, HB.out.trans (s17.out.mono (by rw [SZ.out]; exact Nat.le_succ _)), k17.out⟩
        · skip
          rw [if_pos (by kernel_rfl)]
          go_simp
          have s18 := Lib.hid (show Below W1.heap.size W1 ((m13.alloc (.cells #[.int .u8 84, .int .u8 87] 5)).alloc (.cells #[.int .u8 f.k, .int .u8 (Dl.mark f.s f.r : Nat)] 5)) from s14.out.alloc s14.out.size (.cells #[.int .u8 f.k, .int .u8 (Dl.mark f.s f.r : Nat)] 5))
          have k18 := Lib.hid (show KU W1 ((m13.alloc (.cells #[.int .u8 84, .int .u8 87] 5)).alloc (.cells #[.int .u8 f.k, .int .u8 (Dl.mark f.s f.r : Nat)] 5)) from k14.out.alloc (.cells #[.int .u8 f.k, .int .u8 (Dl.mark f.s f.r : Nat)] 5))
          have b18 := Lib.hid (show ((m13.alloc (.cells #[.int .u8 84, .int .u8 87] 5)).alloc (.cells #[.int .u8 f.k, .int .u8 (Dl.mark f.s f.r : Nat)] 5)).heap[(m13.heap.size + 1)]? = some (.cells #[.int .u8 f.k, .int .u8 (Dl.mark f.s f.r : Nat)] 5) from by have h := heap_alloc_new (m13.alloc (.cells #[.int .u8 84, .int .u8 87] 5)) (.cells #[.int .u8 f.k, .int .u8 (Dl.mark f.s f.r : Nat)] 5); (try rw [World.size_alloc] at h); exact h)
          have y18 := Lib.hid (hf_alloc b14.out (.cells #[.int .u8 f.k, .int .u8 (Dl.mark f.s f.r : Nat)] 5))
          refine hK.out _ _ s18.out (fun hS18 => ?_)
          clear hK K
          try simp only [Act.put, List.setIfInBounds_toArray, List.set_cons_zero, List.set_cons_succ]
          refine wpAnyH_ready (rs := [1]) (by kernel_rfl) (by simp) ?_
          refine AllReadyH.cons rfl (fun K hK => ?_) AllReadyH.nil
          obtain ⟨V19, cv19, hv19, kv19, sv19, hp19, ot19⟩ := lit_conv19 (W1 := W1) (n := 2) (c := 2) (b := m13.heap.size) (by have h := s13.out.size; (try rw [World.size_alloc] at h); exact h) y18.out s18.out k18.out
          rw [if_pos (by kernel_rfl)]
          go_simp
          have s19 := Lib.hid hv19
          have k19 := Lib.hid kv19
          have x19 := Lib.hid hp19
          have y19 := Lib.hid (hf_conv (k := (m13.heap.size + 1)) (b := m13.heap.size) b18.out (by have h := hf_lt b14.out; (try rw [World.size_alloc] at h); omega) ot19)
          refine hK.out _ _ s19.out (fun hS19 => ?_)
          clear hv19 kv19 sv19 hp19 ot19 cv19
          clear hK K
          try simp only [Act.put, List.setIfInBounds_toArray, List.set_cons_zero, List.set_cons_succ]
          refine wpAnyH_ready (rs := [9]) (by kernel_rfl) (by simp) ?_
          refine AllReadyH.cons rfl (fun K hK => ?_) AllReadyH.nil
          obtain ⟨v20, z20, run20, own20, bel20, ku20⟩ := lit_app19 (c := 2) s19.out k19.out (rb_lit19 (xs := [84, 87]) (hf_lt x19.out) x19.out) (rb_lit19 (xs := [f.k, (Dl.mark f.s f.r : Nat)]) (hf_lt y19.out) y19.out)
          have o20 := Lib.hid own20
          have s20 := Lib.hid bel20
          have k20 := Lib.hid ku20
          refine step_append_run19 rfl (.tmp 5) (.tmp 12) 28 28 rfl _ _ (by simp [Act.eval]) (by simp [Act.eval]) run20 ?_
          clear run20 own20 bel20 ku20
          refine hK.out (Act.put _ (some 13) v20) _ s20.out (fun hS20 => ?_)
          clear hK K
          try simp only [Act.put, List.setIfInBounds_toArray, List.set_cons_zero, List.set_cons_succ]
          refine wpAnyH_take (i := 10) (v := v20) rfl (by kernel_rfl) (by kernel_rfl) (by kernel_rfl) (fun _ _ _ h => h) (Or.inl ⟨by kernel_rfl, fun W hW => by go_simp⟩) s20.out ?_
          refine wpAnyH_done (by kernel_rfl) ?_ _
          change (Exit.then _ _) Exit.normal (Act.put _ (some 3) v20) _
          try simp only [Act.put, List.setIfInBounds_toArray, List.set_cons_zero, List.set_cons_succ]
          try go_wp2
          go_meet
          exact ⟨o20.out, HB.out.trans (s20.out.mono (by rw [SZ.out]; exact Nat.le_succ _)), k20.out⟩
      · skip
        rw [if_pos (by kernel_rfl)]
        go_simp
        have s21 := Lib.hid (show Below W1.heap.size W1 (m13.alloc (.cells #[.int .u8 f.k, .int .u8 (Dl.mark f.s f.r : Nat)] 5)) from s13.out.alloc s13.out.size (.cells #[.int .u8 f.k, .int .u8 (Dl.mark f.s f.r : Nat)] 5))
        have k21 := Lib.hid (show KU W1 (m13.alloc (.cells #[.int .u8 f.k, .int .u8 (Dl.mark f.s f.r : Nat)] 5)) from k13.out.alloc (.cells #[.int .u8 f.k, .int .u8 (Dl.mark f.s f.r : Nat)] 5))
        have b21 := Lib.hid (show (m13.alloc (.cells #[.int .u8 f.k, .int .u8 (Dl.mark f.s f.r : Nat)] 5)).heap[m13.heap.size]? = some (.cells #[.int .u8 f.k, .int .u8 (Dl.mark f.s f.r : Nat)] 5) from by have h := heap_alloc_new m13 (.cells #[.int .u8 f.k, .int .u8 (Dl.mark f.s f.r : Nat)] 5); (try rw [World.size_alloc] at h); exact h)
        refine hK.out _ _ s21.out (fun hS21 => ?_)
        clear hK K
        try simp only [Act.put, List.setIfInBounds_toArray, List.set_cons_zero, List.set_cons_succ]
        refine wpAnyH_ready (rs := [0]) (by kernel_rfl) (by simp) ?_
        refine AllReadyH.cons rfl (fun K hK => ?_) AllReadyH.nil
        rw [if_pos (by kernel_rfl)]
        go_simp
        have s22 := Lib.hid (show Below W1.heap.size W1 ((m13.alloc (.cells #[.int .u8 f.k, .int .u8 (Dl.mark f.s f.r : Nat)] 5)).alloc (.cells #[.int .u8 84, .int .u8 87] 5)) from s21.out.alloc s21.out.size (.cells #[.int .u8 84, .int .u8 87] 5))
        have k22 := Lib.hid (show KU W1 ((m13.alloc (.cells #[.int .u8 f.k, .int .u8 (Dl.mark f.s f.r : Nat)] 5)).alloc (.cells #[.int .u8 84, .int .u8 87] 5)) from k21.out.alloc (.cells #[.int .u8 84, .int .u8 87] 5))
        have b22 := Lib.hid (show ((m13.alloc (.cells #[.int .u8 f.k, .int .u8 (Dl.mark f.s f.r : Nat)] 5)).alloc (.cells #[.int .u8 84, .int .u8 87] 5)).heap[(m13.heap.size + 1)]? = some (.cells #[.int .u8 84, .int .u8 87] 5) from by have h := heap_alloc_new (m13.alloc (.cells #[.int .u8 f.k, .int .u8 (Dl.mark f.s f.r : Nat)] 5)) (.cells #[.int .u8 84, .int .u8 87] 5); (try rw [World.size_alloc] at h); exact h)
        have y22 := Lib.hid (hf_alloc b21.out (.cells #[.int .u8 84, .int .u8 87] 5))
        refine hK.out _ _ s22.out (fun hS22 => ?_)
        clear hK K
        try simp only [Act.put, List.setIfInBounds_toArray, List.set_cons_zero, List.set_cons_succ]
        refine wpAnyH_ready (rs := [1]) (by kernel_rfl) (by simp) ?_
        refine AllReadyH.cons rfl (fun K hK => ?_) AllReadyH.nil
        obtain ⟨V23, cv23, hv23, kv23, sv23, hp23, ot23⟩ := lit_conv19 (W1 := W1) (n := 2) (c := 2) (b := (m13.heap.size + 1)) (by have h := s21.out.size; (try rw [World.size_alloc] at h); exact h) b22.out s22.out k22.out
        rw [if_pos (by kernel_rfl)]
        go_simp
        have s23 := Lib.hid hv23
        have k23 := Lib.hid kv23
        have x23 := Lib.hid hp23
        have y23 := Lib.hid (hf_conv (k := m13.heap.size) (b := (m13.heap.size + 1)) y22.out (by have h := hf_lt b21.out; (try rw [World.size_alloc] at h); omega) ot23)
        refine hK.out _ _ s23.out (fun hS23 => ?_)
        clear hv23 kv23 sv23 hp23 ot23 cv23
        clear hK K
        try simp only [Act.put, List.setIfInBounds_toArray, List.set_cons_zero, List.set_cons_succ]
        refine wpAnyH_ready (rs := [9]) (by kernel_rfl) (by simp) ?_
        refine AllReadyH.cons rfl (fun K hK => ?_) AllReadyH.nil
        obtain ⟨v24, z24, run24, own24, bel24, ku24⟩ := lit_app19 (c := 2) s23.out k23.out (rb_lit19 (xs := [84, 87]) (hf_lt x23.out) x23.out) (rb_lit19 (xs := [f.k, (Dl.mark f.s f.r : Nat)]) (hf_lt y23.out) y23.out)
        have o24 := Lib.hid own24
        have s24 := Lib.hid bel24
        have k24 := Lib.hid ku24
        refine step_append_run19 rfl (.tmp 5) (.tmp 12) 28 28 rfl _ _ (by simp [Act.eval]) (by simp [Act.eval]) run24 ?_
        clear run24 own24 bel24 ku24
        refine hK.out (Act.put _ (some 13) v24) _ s24.out (fun hS24 => ?_)
        clear hK K
        try simp only [Act.put, List.setIfInBounds_toArray, List.set_cons_zero, List.set_cons_succ]
        refine wpAnyH_take (i := 10) (v := v24) rfl (by kernel_rfl) (by kernel_rfl) (by kernel_rfl) (fun _ _ _ h => h) (Or.inl ⟨by kernel_rfl, fun W hW => by go_simp⟩) s24.out ?_
        refine wpAnyH_done (by kernel_rfl) ?_ _
        change (Exit.then _ _) Exit.normal (Act.put _ (some 3) v24) _
        try simp only [Act.put, List.setIfInBounds_toArray, List.set_cons_zero, List.set_cons_succ]
        try go_wp2
        go_meet
        exact ⟨o24.out, HB.out.trans (s24.out.mono (by rw [SZ.out]; exact Nat.le_succ _)), k24.out⟩
  case rest =>
    obtain ⟨HO, HC⟩ := hcut
    have hT : 42 ≠ 5 := by decide
    have BC := Lib.hid (HC.out.2 _ _ _ hT BF.out)
    have BS := Lib.hid (show W1.heap.size ≤ wc.heap.size by have := BC.out.lt; rw [SZ.out]; exact this)
    obtain ⟨v2, w2, hrun, ho2, hb2, hk2⟩ := app_ku19 (c := 16) HO.out (rb_tok BC.out hl BC.out.lt) (by omega) BS.out
    have HR := Lib.hid hrun
    have HB2 := Lib.hid (HC.out.1.trans (hb2.mono (by rw [SZ.out]; exact Nat.le_succ _)))
    have HK2 := Lib.hid (HC.out.2.trans hk2)
    have BS2 := Lib.hid (Nat.le_trans BS.out hb2.size)
    have c17 := (FB.of (HK2.out _ _ _ hT BF.out) hl).c17
    have LN1 := Lib.hid (laynumber_any19 W1.heap.size v2 20 4 _ f.s w2 ho2 BS2.out (by omega) (by omega) (by omega))
    have LN2 := Lib.hid (fun v3 w3 (h : OBn w3 W1.heap.size 5 v3 24 ([84, 87, f.k, (Dl.mark f.s f.r : Nat)] ++ f.tok ++ Fm.num 4 f.s)) (h2 : W1.heap.size ≤ w3.heap.size) => laynumber_any19 W1.heap.size v3 24 4 _ f.r w3 h h2 (by omega) (by omega) (by omega))
    have FL := Lib.hid (fun w3 (h : KU W1 w3) => (FB.of (h _ _ _ hT BF.out) hl).c18)
    have EH := Lib.hid (show [84, 87, f.k, (Dl.mark f.s f.r : Nat)] ++ f.tok ++ Fm.num 4 f.s ++ Fm.num 4 f.r = Fm.head f from rfl)
    have e4 : (((4 : Nat) : Int)) = 4 := rfl
    rw [e4] at LN1
    simp only [e4] at LN2
    have hsw : IntKind.u64.wrap (f.s : Int) = (f.s : Int) := by rw [IntKind.wrap_u64]; omega
    have hrw : IntKind.u64.wrap (f.r : Int) = (f.r : Int) := by rw [IntKind.wrap_u64]; omega
    clear hrun ho2 hb2 hk2 e4
    generalize f.s = s at *
    generalize f.r = r at *
    go_wp2_with (first
      | (at_builtin; refine Lib.wpList_append_run _ rfl _ _ 28 28 rfl _ _ rfl rfl _ _ HR.out ?_)
      | (go_at_call 44; (with_reducible refine LN1.out.mono ?_); rintro e w3 ⟨v3, rfl, ho3, hb3, hk3⟩; have HO3 := Lib.hid ho3; have HB3 := Lib.hid (HB2.out.trans (hb3.mono (by rw [SZ.out]; exact Nat.le_succ _))); have HK3 := Lib.hid (HK2.out.trans hk3); have BS3 := Lib.hid (Nat.le_trans BS2.out hb3.size); have c18 := FL.out _ HK3.out; clear ho3 hb3 hk3)
      | (go_at_call 44; (with_reducible refine (LN2.out _ _ HO3.out BS3.out).mono ?_); rintro e w4 ⟨v4, rfl, ho4, hb4, hk4⟩; have HO4 := Lib.hid ho4; have HB4 := Lib.hid (HB3.out.trans (hb4.mono (by rw [SZ.out]; exact Nat.le_succ _))); have HK4 := Lib.hid (HK3.out.trans hk4); clear ho4 hb4 hk4))
    go_ret
    exact ⟨_, rfl, by rw [← EH.out, ← SZ.out]; exact HO4.out, HB4.out, HK.out.trans HK4.out⟩
end Go.Proofs.Ytjiafpmcibokbaa
