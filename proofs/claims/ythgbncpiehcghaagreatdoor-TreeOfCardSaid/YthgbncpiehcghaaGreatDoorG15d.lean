/- WALKS OF LAYER 15, FOURTH PART: Of. -/
import Derived.Test.YthgbncpiehcghaaGreatDoorGw1
import Derived.Sort.CutIn
import Derived.RegionIn
namespace Go.Proofs.YthgbncpiehcghaaGreatDoor
set_option linter.unusedVariables false
open Go Go.RowKit Go.Maps Go.Shelf
attribute [local go_sem] Oper.semAt_some
set_option maxRecDepth 100000
set_option maxHeartbeats 8000000
open Nt (Tr Nd WF Ps Path at_ cnt used txt Mm)
theorem frame4b (w : World) (v1 v2 v3 v4 : Value) (t1 t2 t3 t4 : TypeId) : ∃ W, (((w.alloc (.cells #[v1] t1)).alloc (.cells #[v2] t2)).alloc (.cells #[v3] t3)).alloc (.cells #[v4] t4) = W ∧ Below w.heap.size w W ∧ W.heap.size = w.heap.size + 1 + 1 + 1 + 1 ∧ Boxed W w.heap.size t1 v1 ∧ Boxed W (w.heap.size + 1) t2 v2 ∧ Boxed W (w.heap.size + 1 + 1) t3 v3 ∧ Boxed W (w.heap.size + 1 + 1 + 1) t4 v4 := by
  have a1 := Boxed.new w t1 v1
  have a2 := Boxed.new (w.alloc (.cells #[v1] t1)) t2 v2
  have a3 := Boxed.new ((w.alloc (.cells #[v1] t1)).alloc (.cells #[v2] t2)) t3 v3
  have a4 := Boxed.new (((w.alloc (.cells #[v1] t1)).alloc (.cells #[v2] t2)).alloc (.cells #[v3] t3)) t4 v4
  simp only [World.size_alloc] at a2 a3 a4
  exact ⟨_, rfl, (((below_new w _).alloc (by simp) _).alloc (by simp; omega) _).alloc (by simp; omega) _, by simp, ((a1.alloc _).alloc _).alloc _, (a2.alloc _).alloc _, a3.alloc _, a4⟩
theorem RowOf.nil15 {α : Type} {C : α → Array Value} {z : Nat} {U : TypeId} {w : World} {A : Option Addr} : RowOf C z U w A 0 ([] : List α) := ⟨rfl, fun h => absurd h (by omega)⟩
theorem bx_new3 (w : World) (o o2 : Obj) (T : TypeId) (cs : Array Value) : BX (((w.alloc o).alloc o2).alloc (.cells cs T)) (w.heap.size + 1 + 1) T cs := by
  have h := BX.new ((w.alloc o).alloc o2) T cs
  rwa [World.size_alloc, World.size_alloc] at h
theorem len_sub15 {α : Type} [DecidableEq α] : ∀ {l l' : List α}, l.Nodup → (∀ x ∈ l, x ∈ l') → l.length ≤ l'.length
  | [], l', _, _ => by simp
  | a :: l, l', h, hs => by
    rw [List.nodup_cons] at h
    have h1 := len_sub15 (l' := l'.erase a) h.2 fun x hx => (List.mem_erase_of_ne fun e => h.1 (by rw [← e]; exact hx)).2 (hs x (List.mem_cons_of_mem _ hx))
    have h2 := List.length_erase_of_mem (hs a (by simp))
    have h3 := List.length_pos_of_mem (hs a (by simp))
    rw [List.length_cons]
    omega
theorem und_nodup {R : Ps} (hd : (R.map (·.1)).Nodup) (m : Nat) (P : Path) : (Nt.und R m P).Nodup :=
  (Nt.und_rise hd m P).imp fun {a b} h e => by subst e; rw [Pp.less_irrefl] at h; cases h
theorem bx_at15 {w : World} {n : Nat} {T : TypeId} {cs : Array Value} (h : w.heap.size = n) : BX (w.alloc (.cells cs T)).drew n T cs := by
  subst h
  exact (BX.new w T cs).drew
theorem boxed_oth {w : World} {B b : Nat} {t : TypeId} {u : Value} (hne : B ≠ b) (j : Nat) (v : Value) (h : Boxed w B t u) : Boxed (w.setCell ⟨b, j, none⟩ v) B t u := (heap_setCell_other w ⟨b, j, none⟩ B v hne).trans h
theorem cell_oth {w : World} {a b o : Nat} {u : Value} (hne : a ≠ b) (j : Nat) (v : Value) (h : w.cell? ⟨a, o, none⟩ = some u) : (w.setCell ⟨b, j, none⟩ v).cell? ⟨a, o, none⟩ = some u := (World.cell?_of_block (a := ⟨a, o, none⟩) (heap_setCell_other w ⟨b, j, none⟩ a v hne)).trans h
theorem bx_two15 (w : World) (o : Obj) (T : TypeId) (cs : Array Value) : BX ((w.alloc o).alloc (.cells cs T)) (w.heap.size + 1) T cs := by
  have h := BX.new (w.alloc o) T cs
  rwa [World.size_alloc] at h
/-- A tree's nodes. -/
def NodeObj15 (o : Obj) : Prop := ∃ cs fz, o = .cells cs 108 fz
theorem node_no {cs : Array Value} {T : TypeId} {fz : Nat × Nat} (h : T ≠ 108) : ¬ NodeObj15 (.cells cs T fz) := by
  rintro ⟨_, _, e⟩
  cases e
  exact h rfl
theorem node_nm : ∀ o, NodeObj15 o → NmObj o := by
  rintro o ⟨cs, fz, rfl⟩
  exact ⟨_, _, _, rfl, .inl rfl⟩
theorem wpAnyIn_into {F : Fence} {n l : Nat} {P : Program} {ops : Array Oper} {Q : Exit → Act → World → Prop} {md : Region.Mode} (hro : F.round = none) (hnd : ∀ (i : Nat) o, ops[i]? = some o → ∀ c, o.op ≠ .defer c) :
    ∀ (fuel : Nat) (listed : Array Bool) (a : Act) (w : World), wpAnyIn F n P md ops Q fuel listed a w → wpAnyIn (F.inRound l) n P md ops Q fuel listed a w
  | 0, _, _, _, h => h
  | fuel + 1, listed, a, w, h => by
    refine ⟨h.1, fun i hi => ?_⟩
    have h2 := wpOpIn_mono (K' := wpAnyIn (F.inRound l) n P md ops Q fuel (listed.setIfInBounds i true)) (fun a w => wpAnyIn_into hro hnd fuel _ a w) (h.2 i hi)
    unfold wpOpIn at h2 ⊢
    cases ho : ops[i]? with
    | none =>
      rw [ho] at h2
      exact h2
    | some o =>
      rw [ho] at h2
      simp only at h2 ⊢
      have e : o.wpIn (F.inRound l) n P a w (wpAnyIn (F.inRound l) n P md ops Q fuel (listed.setIfInBounds i true)) Q = o.wpIn F n P a w (wpAnyIn (F.inRound l) n P md ops Q fuel (listed.setIfInBounds i true)) Q := by
        unfold Oper.wpIn
        rw [Oper.semAt_eq _ _ _ (hnd i o ho), Oper.semAt_eq _ _ _ (hnd i o ho)]
        rfl
      rw [e]
      exact h2
theorem no_defer15 {ops : Array Oper} (h : ops.all (fun o => match o.op with | .defer _ => false | _ => true) = true) (i : Nat) (o : Oper) (ho : ops[i]? = some o) (c : Call) : o.op ≠ .defer c := fun e => by
  rw [Array.all_eq_true] at h
  obtain ⟨hi, rfl⟩ := Array.getElem?_eq_some_iff.1 ho
  have := h i hi
  rw [e] at this
  cases this
theorem own_base15 {w : World} {B B' size n : Nat} {e : TypeId} {v : Value} {xs : List Value} (h : w.ownsRow B e size v n xs) (hb : B' ≤ B) : w.ownsRow B' e size v n xs := by
  refine ⟨h.1, ?_⟩
  rcases h.2 with hl | ⟨g, cap, cur, rfl, hbg, hg, h1, h2, h3, h4⟩
  · exact .inl hl
  · exact .inr ⟨g, cap, cur, rfl, Nat.le_trans hb hbg, hg, h1, h2, h3, h4⟩
theorem own_keptX15 {X : Obj → Prop} {w w' : World} {B size n : Nat} {e : TypeId} {v : Value} {xs : List Value} (h : w.ownsRow B e size v n xs) (hk : KeepX X w w') (hX : ∀ cs fz, ¬ X (.cells cs e fz)) : w'.ownsRow B e size v n xs :=
  own_keep13 h fun k h1 => by
    obtain ⟨cs, h2⟩ := own_block13 h h1
    rw [h2]
    exact hk.block k _ h2 (hX _ _)
section
variable {F : Nat → Prop} {K tb : Nat} {w w' : World} {T : Tr} {ad mb : Nat → Nat}
theorem of_own (hW : WF T K) (hK : K ≤ 90000) (hT : Nt.Mok T) (hX : Nt.Bok T) (hR : RepP F K w tb T ad mb) (p : ByteArray) (hp : p.size ≤ 100000) :
    Calls Tryz.prog 36 #[.pointer (some ⟨tb, 0, none⟩), .string p] w fun e w' => ∃ A c L, e = .returned (.tuple #[.slice A L.length c, .int .i64 (Nt.ofE T p)]) ∧ L.map erm = (Nt.ofL T p).map erm ∧ MRow w' A L.length L ∧ L.length ≤ c ∧ (c ≤ maxLen ∧ w'.ownsRow w.heap.size 102 8 (.slice A L.length c) L.length (rl MmC L)) ∧ Below w.heap.size w w' := by
  have hRm := hR.min
  have hFl : ∀ k, Fm T tb ad mb k → k < w.heap.size := fun k hk => hRm.lt hk
  have HR := Lib.hid hRm
  have kl := Lib.hid (fun W (h : RepP (Fm T tb ad mb) K W tb T ad mb) => list_any hW (by omega) h p (by omega))
  have hro : Fence.wide.round = none := rfl
  refine (callsIn_wide (n := 9)).1 ?_
  obtain ⟨m9, hm9⟩ : ∃ m : Nat, 9 = m := ⟨_, rfl⟩
  rw [hm9]
  have h1m : 1 ≤ m9 := by omega
  have h2m : 1 ≤ m9 - 1 - 1 := by omega
  clear hm9
  obtain ⟨W4, hW4, hb4, hs4, x0, x1, x2, x3⟩ := frame4b w (.pointer (some ⟨tb, 0, none⟩)) (.string p) (.slice none 0 0) (.int .i64 0) 24 9 81 41
  have CF := Lib.hid (fun W (h : Below W4.heap.size W4 W) => show W.cell? ⟨w.heap.size, 0, none⟩ = some (.pointer (some ⟨tb, 0, none⟩)) ∧ W.cell? ⟨w.heap.size + 1, 0, none⟩ = some (.string p) ∧ W.cell? ⟨w.heap.size + 1 + 1, 0, none⟩ = some (.slice none 0 0) ∧ W.cell? ⟨w.heap.size + 1 + 1 + 1, 0, none⟩ = some (.int .i64 0) ∧ W.frozen? ⟨w.heap.size + 1 + 1, 0, none⟩ = false ∧ W.frozen? ⟨w.heap.size + 1 + 1 + 1, 0, none⟩ = false from
    ⟨(boxed_below x0 h).cell, (boxed_below x1 h).cell, (boxed_below x2 h).cell, (boxed_below x3 h).cell, (boxed_below x2 h).frozen, (boxed_below x3 h).frozen⟩)
  have X0 := Lib.hid x0
  have X1 := Lib.hid x1
  have X2 := Lib.hid x2
  have X3 := Lib.hid x3
  have HB4 := Lib.hid hb4
  obtain ⟨y0, y1, y2, y3, y4, y5⟩ := CF.out _ (Below.refl _ _)
  clear x0 x1 x2 x3 hb4
  refine callsIn_of_wp_marks Tryz.func36 rfl trivial ?_ rfl
  simp only [Tryz.ntmps36, List.size_toArray, List.length_cons, List.length_nil, Nat.reduceAdd, Nat.reduceSub, Array.replicate_succ, Array.replicate_zero, List.push_toArray, List.append_toArray, List.nil_append, List.cons_append]
  by_cases hE : lsE T p ≠ 0
  · have hOE : Nt.ofE T p = lsE T p := by unfold Nt.ofE; rw [show Nt.lisE T p = lsE T p from rfl, if_pos hE]
    have hOL : Nt.ofL T p = [] := by unfold Nt.ofL; rw [hOE, if_neg hE]
    rw [hOE, hOL]
    obtain ⟨z, hz⟩ : ∃ z, lsE T p = z := ⟨_, rfl⟩
    rw [hz] at kl hE ⊢
    have gz : (z != 0) = true := by simp [hE]
    clear hz hOE hOL hW hR hRm hT
    gi_wp2_with (refine ⟨trivial, ?_⟩; gi_at_call 50; refine (callsIn_wide.2 (kl.out _ (HR.out.later HB4.out))).mono ?_; rintro e w5 ⟨v, L, rfl, ho, _, hL, hb5⟩; obtain ⟨z0, z1, z2, z3, z4, z5⟩ := CF.out _ hb5)
    have b2 := (boxed_below X2.out hb5).set (.slice none 0 0)
    have b2' := b2.other (B' := w.heap.size + 1 + 1 + 1) (by omega) (.int .i64 z)
    have b3' := ((boxed_below X3.out hb5).other (B' := w.heap.size + 1 + 1) (by omega) (.slice none 0 0)).set (.int .i64 z)
    have k2 := b2'.cell
    have k3 := b3'.cell
    refine ⟨.tuple #[.slice none 0 0, .int .i64 z], ?_, none, 0, [], rfl, rfl, ⟨RowOf.nil15, fun x hx => (by cases hx)⟩, Nat.le_refl _, ⟨Nat.zero_le _, World.ownsRow_nil _ _ _ _⟩, ?_⟩
    · simp [results, Tryz.f36, go_sem, k2, k3]
    · exact ((bthen HB4.out hb5).setCell (p := ⟨w.heap.size + 1 + 1, 0, none⟩) (by simp; omega) _).setCell (p := ⟨w.heap.size + 1 + 1 + 1, 0, none⟩) (by simp; omega) _
  · have hE0 : lsE T p = 0 := by omega
    have hfk : (T.find p).2 = 0 ∧ (T.nd (T.find p).1).kind = 4 := by
      unfold lsE at hE0
      by_cases h1 : (T.find p).2 = 0
      · rw [if_neg (by simp [h1])] at hE0
        by_cases h2 : (T.nd (T.find p).1).kind = 4
        · exact ⟨h1, h2⟩
        · rw [if_pos h2] at hE0; exact absurd hE0 (by decide)
      · rw [if_pos h1] at hE0; exact absurd hE0 h1
    obtain ⟨hps, hPm⟩ := hW.find_ok hfk.1
    obtain ⟨P, hPP⟩ : ∃ P, Nt.nms p = P := ⟨_, rfl⟩
    have hpt : txt P = p := by rw [← hPP]; exact Nt.txt_nms p
    rw [hPP] at hPm
    obtain ⟨n, hn⟩ : ∃ n, (T.find p).1 = n := ⟨_, rfl⟩
    rw [hn] at hPm
    have hPN := hW.names P n hPm
    have hp300 : p.size ≤ 300 := by
      rcases hps with h | h
      · omega
      · exact (Nt.isP_iff.1 h).1
    rw [hE0] at kl
    have kc := Lib.hid (fun W (h : RepP (Fm T tb ad mb) K W tb T ad mb) => tclone_any hW (by omega) h)
    have kp := Lib.hid (fun W => paths_any W p tb)
    gi_wp2_with (first
      | (refine ⟨trivial, ?_⟩; gi_at_call 84; refine (callsIn_wide.2 (kp.out _)).mono ?_; rintro e w7 ⟨rfl, hb71, hb72, hb7⟩)
      | (refine ⟨trivial, ?_⟩; gi_at_call 40; refine (callsIn_wide.2 (kc.out _ HR5.out)).mono ?_; rintro e w6 ⟨mtb, rfl, hml, ⟨ad6, mb6, hR6⟩, hb6⟩; have bb6 := bthen bb5 hb6; obtain ⟨c0, c1, c2, c3, c4, c5⟩ := CF.out _ bb6; have bb6' := bthen bb6 (below_new w6 (.cells #[.pointer (some ⟨mtb, 0, none⟩)] 24)); obtain ⟨d0, d1, d2, d3, d4, d5⟩ := CF.out _ bb6')
      | (refine ⟨trivial, ?_⟩; gi_at_call 50; refine (callsIn_wide.2 (kl.out _ (HR.out.later HB4.out))).mono ?_; rintro e w5 ⟨v, L0, rfl, ho, _, hL, hb5⟩; obtain ⟨z0, z1, z2, z3, z4, z5⟩ := CF.out _ hb5; have bb5 := bthen hb5 (below_new w5 (.cells #[.slice none 0 0] 81)); obtain ⟨a0, a1, a2, a3, a4, a5⟩ := CF.out _ bb5; have HR5 := Lib.hid (((HR.out.later HB4.out).later hb5).later (below_new w5 (.cells #[.slice none 0 0] 81)))))
    have hs6 : (w6.alloc (.cells #[.pointer (some ⟨mtb, 0, none⟩)] 24)).heap.size = w6.heap.size + 1 := by simp
    rw [hs6] at hb71 hb72
    have bb7 : Below W4.heap.size W4 w7 := bthen bb6' hb7
    have hl7 : Below w.heap.size w w7 := bthen HB4.out bb7
    have hR7 : RepP (Fm T tb ad mb) K w7 tb T ad mb := HR.out.later hl7
    have hM7 := (hR6.later (below_new w6 (.cells #[.pointer (some ⟨mtb, 0, none⟩)] 24))).later hb7
    have s5 : W4.heap.size ≤ w5.heap.size := hb5.size
    have s6 : w5.heap.size + 1 ≤ w6.heap.size := by have := hb6.size; simpa using this
    have s7 : w6.heap.size + 1 ≤ w7.heap.size := by have := hb7.size; rwa [hs6] at this
    have hG : ∀ k, Grow (fun _ => False) (w5.alloc (.cells #[.slice none 0 0] 81)) w6 k → k < w7.heap.size := by
      rintro k (h | h)
      · exact h.elim
      · omega
    have b5 : Boxed w7 w5.heap.size 81 (.slice none 0 0) := boxed_below (boxed_below (boxed_below (Boxed.new w5 _ _) hb6) (below_new w6 _)) hb7
    have b6 : Boxed w7 w6.heap.size 24 (.pointer (some ⟨mtb, 0, none⟩)) := boxed_below (Boxed.new w6 _ _) hb7
    have hI0 : ListI T K P (Grow (fun _ => False) (w5.alloc (.cells #[.slice none 0 0] 81)) w6) mtb ad6 mb6 w7.heap.size w5.heap.size [] w7 :=
      ⟨_, [], T, b5, World.ownsRow_nil _ _ _ _, fun x hx => (by cases hx), rfl, Nt.Marks.refl T fl, hM7⟩
    have KG := Lib.hid (paths_gives hW (by omega) hFl hPm (k := 302) (by omega) w7 hR7 hl7.size hb71 (by rw [hpt]; exact hb72) (m9 - 1))
    have L7 := Lib.hid hl7
    have BB7 := Lib.hid bb7
    have GG := Lib.hid hG
    have kg := Lib.hid (fun W (h : RepP (Fm T tb ad mb) K W tb T ad mb) (q : ByteArray) (hq : q.size ≤ 1000000) => get_any hW (by omega) h q hq)
    have I0 := Lib.hid hI0
    have B6 := Lib.hid b6
    clear hb71 hb72 hR7 hM7 hl7 bb7 hG b5 b6 hI0 hb7 hb6 hb5 hR6 ho hL bb5 bb6 bb6' a0 a1 a2 a3 a4 a5 c0 c1 c2 c3 c4 c5 d0 d1 d2 d3 d4 d5 z0 z1 z2 z3 z4 z5 y0 y1 y2 y3 y4 y5 hW4
    refine range_keeps hro h1m (gf := 123) (lb := #[.pointer (some ⟨w6.heap.size + 1, 0, none⟩), .pointer (some ⟨w6.heap.size + 1 + 1, 0, none⟩)]) rfl trivial (enters_of Tryz.func123 (by kernel_rfl) rfl) (fun _ => rfl)
      KG.out (Below.refl _ _) (fun h k => Kp15.trans h k) (fun W l r r' hl hr => Kp15.loop (Nat.le_trans L7.out.size hl) hr)
      (fun pre W => (∀ q ∈ pre, (txt q).size ≤ 300) ∧ Boxed W w.heap.size 24 (.pointer (some ⟨tb, 0, none⟩)) ∧ Boxed W (w.heap.size + 1) 9 (.string p) ∧ Boxed W (w.heap.size + 1 + 1) 81 (.slice none 0 0) ∧ Boxed W (w.heap.size + 1 + 1 + 1) 41 (.int .i64 0) ∧ Boxed W w6.heap.size 24 (.pointer (some ⟨mtb, 0, none⟩)) ∧ ListI T K P (Grow (fun _ => False) (w5.alloc (.cells #[.slice none 0 0] 81)) w6) mtb ad6 mb6 w7.heap.size w5.heap.size pre W ∧ Below w.heap.size w W ∧ w7.heap.size ≤ W.heap.size)
      (fun c pre W => c = .ret ∧ (∃ q ∈ pre, 300 < (txt q).size) ∧ Boxed W (w.heap.size + 1 + 1) 81 (.slice none 0 0) ∧ Boxed W (w.heap.size + 1 + 1 + 1) 41 (.int .i64 8) ∧ Below w.heap.size w W)
      (OwnFrom.and (fun _ _ _ _ h _ _ => h) (OwnFrom.and (boxed_from _ _ _ (fun _ => _)) (OwnFrom.and (boxed_from _ _ _ (fun _ => _)) (OwnFrom.and (boxed_from _ _ _ (fun _ => _)) (OwnFrom.and (boxed_from _ _ _ (fun _ => _)) (OwnFrom.and (boxed_from _ _ _ (fun _ => _)) (OwnFrom.and (ListI.own GG.out) (OwnFrom.and (ownFrom_below (Nat.le_refl _) L7.out.size) (ownFrom_size _ _)))))))))
      (fun c => OwnFrom.and (fun _ _ _ _ h _ _ => h) (OwnFrom.and (fun _ _ _ _ h _ _ => h) (OwnFrom.and (boxed_from _ _ _ (fun _ => _)) (OwnFrom.and (boxed_from _ _ _ (fun _ => _)) (ownFrom_below (Nat.le_refl _) L7.out.size)))))
      ?closed ⟨by simp, boxed_below X0.out BB7.out, boxed_below X1.out BB7.out, boxed_below X2.out BB7.out, boxed_below X3.out BB7.out, B6.out, I0.out, L7.out, Nat.le_refl _⟩
      (fun x => { tmps := #[.pointer (some ⟨tb, 0, none⟩), .string p, .pointer (some ⟨w.heap.size, 0, none⟩), .pointer (some ⟨w.heap.size + 1, 0, none⟩), .pointer (some ⟨w.heap.size + 1 + 1, 0, none⟩), .pointer (some ⟨w.heap.size + 1 + 1 + 1, 0, none⟩), v, .int .i64 0, .pointer (some ⟨w5.heap.size, 0, none⟩), .pointer (some ⟨w6.heap.size, 0, none⟩), .string (txt x), undef, undef, undef, undef, .tuple #[v, .int .i64 0], .pointer (some ⟨tb, 0, none⟩), .string p, .tuple #[v, .int .i64 0], v, .int .i64 0, .int .i64 0, .bool false, undef, .pointer (some ⟨tb, 0, none⟩), .pointer (some ⟨mtb, 0, none⟩), .pointer (some ⟨tb, 0, none⟩), .string p, PathsV (w6.heap.size + 1), .string (txt x), undef, undef, undef, undef, undef, undef, undef, undef, undef, undef, undef, undef, undef, undef, undef, undef, undef, undef, undef, undef, undef, undef, undef, undef, undef, undef, undef, undef, undef, undef, undef, undef, undef, undef, undef, undef, undef, undef, undef, undef, undef, undef, undef, undef, undef, undef, undef, undef, undef, undef, undef, undef], defers := [] }) ?assign ?body ?done ?stop
    case closed =>
      rintro pre A B hb ⟨h1, h2, h3, h4, h5, h6, h7, h8, h9⟩
      exact ⟨h1, boxed_below h2 hb, boxed_below h3 hb, boxed_below h4 hb, boxed_below h5 hb, boxed_below h6 hb, h7.below hb, bthen h8 hb, Nat.le_trans h9 hb.size⟩
    case assign =>
      intro l x W K hK
      gi_wp2
      exact hK
    case body =>
      rintro l pre q W hx ⟨h1, h2, h3, h4, h5, h6, h7, h8, h9⟩
      have hq : q ∈ Nt.und T.paths 302 P := hx.subset (by simp)
      obtain ⟨⟨nq, hqm⟩, ⟨r, hr⟩, hne, hdl⟩ := (Nt.mem_und hW 302 P ⟨n, hPm⟩ (by omega) q).1 hq
      have hqN := hW.names q nq hqm
      have hqs : (txt q).size ≤ 90000 := Nat.le_trans (hW.long q nq hqm) hK
      have hq0 : q ≠ [] := fun e => by subst e; exact hne (List.append_eq_nil_iff.1 hr).1.symm
      have hqp := Nt.txt_pos hq0 hqN
      have HRW := Lib.hid (HR.out.later h8)
      by_cases hlong : 300 < (txt q).size
      · have hf : T.find (txt q) = (0, 8) := by
          have hnp : ¬ Nt.isP (txt q) = true := fun e => by have := (Nt.isP_iff.1 e).1; omega
          unfold Tr.find
          rw [if_neg (by omega), if_neg hnp]
        have k8 := kg.out W HRW.out (txt q) (by omega)
        have hinf : ∀ vd, infoV T (txt q) vd = .agg #[.int .i64 0, .int .i64 0, .int .i64 0, .int .i64 0, .int .i64 0, .string ⟨#[]⟩, .slice none 0 0, .int .i64 0] := fun vd => by unfold infoV; rw [hf, if_neg (by decide)]
        simp only [hinf, hf] at k8
        have K8 := Lib.hid k8
        have BB := Lib.hid (fun W' (hb : Below W.heap.size W W') => show Boxed W' w.heap.size 24 (.pointer (some ⟨tb, 0, none⟩)) ∧ Boxed W' (w.heap.size + 1 + 1) 81 (.slice none 0 0) ∧ Boxed W' (w.heap.size + 1 + 1 + 1) 41 (.int .i64 0) from ⟨boxed_below h2 hb, boxed_below h4 hb, boxed_below h5 hb⟩)
        have y0 := h2.cell
        have hqq : ∃ q' ∈ pre ++ [q], 300 < (txt q').size := ⟨q, by simp, hlong⟩
        have HQ := Lib.hid hqq
        have H8 := Lib.hid h8
        obtain ⟨s, hs⟩ : ∃ s, txt q = s := ⟨_, rfl⟩
        rw [hs] at K8 ⊢
        clear k8 hinf hf hq hqm hr hne hdl hqN hq0 hqp hlong h7 h2 h3 h4 h5 h6 h8 hs hqq hx hqs h1
        gi_wp2_with (refine ⟨trivial, ?_⟩; gi_at_call 41; refine (CallsIn.inRound l (callsIn_wide.2 K8.out)).mono ?_; rintro e W2 ⟨vd, rfl, _, hb2⟩; obtain ⟨b0, b2, b3⟩ := BB.out _ (bthen hb2 (below_new W2 (.cells #[.int .i64 0, .int .i64 0, .int .i64 0, .int .i64 0, .int .i64 0, .string ⟨#[]⟩, .slice none 0 0, .int .i64 0] 92))); have c2 := b2.cell; have c3 := b3.cell; have f2 := b2.frozen; have f3 := b3.frozen)
        have hB2 := bthen hb2 (below_new W2 (.cells #[.int .i64 0, .int .i64 0, .int .i64 0, .int .i64 0, .int .i64 0, .string ⟨#[]⟩, .slice none 0 0, .int .i64 0] 92))
        exact ⟨(keeps_below15 hB2).trans ((KeepsOthers.setCell _ _ _).trans (KeepsOthers.setCell _ _ _)), rfl, HQ.out, (b2.set (.slice none 0 0)).other (by omega) _, (b3.other (B' := w.heap.size + 1 + 1) (by omega) (.slice none 0 0)).set (.int .i64 8),
          ((bthen H8.out hB2).setCell (p := ⟨w.heap.size + 1 + 1, 0, none⟩) (by simp; omega) _).setCell (p := ⟨w.heap.size + 1 + 1 + 1, 0, none⟩) (by simp; omega) _⟩
      · have hs300 : (txt q).size ≤ 300 := by omega
        have hisP : Nt.isP (txt q) = true := by rw [Nt.isP_iff, Nt.pieces_txt hq0 hqN]; exact ⟨hs300, hqN⟩
        have hnm : Nt.nms (txt q) = q := by rw [Nt.nms_isP hisP, Nt.pieces_txt hq0 hqN]
        have hf : T.find (txt q) = (nq, 0) := hW.find_some.2 ⟨.inr hisP, by rw [hnm]; exact hqm⟩
        have hun : Nt.un T P q = (r, nq) := by
          unfold Nt.un
          rw [Nt.nodeOf_is hW hqm, ← hr, List.drop_left]
        have hrest := rest_txt hPN hqN
        rw [hpt, if_pos ⟨⟨r, hr⟩, hne⟩, ← hr, List.drop_left, hr] at hrest
        have k8 := kg.out W HRW.out (txt q) (by omega)
        have hlt := hW.lt _ _ hqm
        have hbyt := hX.nd hlt
        have hok := hW.kinds _ (show T.nd nq ∈ T.nodes from by unfold Tr.nd; simp [List.getD, List.getElem?_eq_getElem hlt])
        obtain ⟨X, hXX⟩ : ∃ X, T.nd nq = X := ⟨_, rfl⟩
        rw [hXX] at hbyt hok
        have hinf : ∀ vd, infoV T (txt q) vd = .agg #[.int .i64 X.kind, .int .i64 X.mode, .int .i64 X.uid, .int .i64 X.gid, .int .i64 X.mtime, .string X.link, vd, .int .i64 (cnt T.paths nq : Nat)] := fun vd => by
          unfold infoV
          rw [hf]
          simp only [if_true]
          rw [hXX]
        simp only [hinf, hf, hXX] at k8
        obtain ⟨xl, hxl⟩ : ∃ x, X.xs.length = x := ⟨_, rfl⟩
        rw [hxl] at k8
        obtain ⟨v9, L, M, hv, hown, hdat, hmap, hmk, hrep⟩ := h7
        obtain ⟨A9, c9, rfl, _, _, _⟩ := own_rowof MmC_size hown rfl
        have hSlen : (pre.map (Nt.un T P)).length = L.length := by
          have := congrArg List.length hmap
          rw [List.length_map, List.length_map, Nt.mms_len] at this
          exact this.symm
        have KR := Lib.hid (fun W' => rest_any (txt q) p W' (by omega) (by omega))
        have hBx : Bxs w tb mtb w6.heap.size p W := ⟨h2, h3, h4, h5, h6⟩
        have HBX := Lib.hid hBx
        have HV := Lib.hid hv
        have BB := Lib.hid (fun W' (hb : Below W.heap.size W W') => show W'.cell? ⟨w.heap.size, 0, none⟩ = some (.pointer (some ⟨tb, 0, none⟩)) ∧ W'.cell? ⟨w.heap.size + 1, 0, none⟩ = some (.string p) ∧ W'.cell? ⟨w6.heap.size, 0, none⟩ = some (.pointer (some ⟨mtb, 0, none⟩)) ∧ W'.cell? ⟨w5.heap.size, 0, none⟩ = some (.slice A9 L.length c9) from ⟨(boxed_below h2 hb).cell, (boxed_below h3 hb).cell, (boxed_below h6 hb).cell, (boxed_below hv hb).cell⟩)
        have K8 := Lib.hid k8
        have y0 := h2.cell
        obtain ⟨cn, hcn⟩ : ∃ x : Int, ((cnt T.paths nq : Nat) : Int) = x := ⟨_, rfl⟩
        rw [hcn] at K8
        obtain ⟨rs, hrs⟩ : ∃ s, txt r = s := ⟨_, rfl⟩
        rw [hrs] at hrest
        obtain ⟨s, hs⟩ : ∃ s, txt q = s := ⟨_, rfl⟩
        rw [hs] at K8 KR hrest ⊢
        rw [hrest] at KR
        have hs3 : s.size ≤ 300 := by rw [← hs]; exact hs300
        have HSS := Lib.hid hs
        have hund := und_nodup hW.nodup 302 P
        have hall : ∀ y ∈ pre ++ [q], ∃ m, (y, m) ∈ T.paths ∧ ∃ t, y = P ++ t ∧ Nt.un T P y = (t, m) := fun y hy => by
          obtain ⟨⟨m, hm⟩, ⟨t, ht⟩, _, _⟩ := (Nt.mem_und hW 302 P ⟨n, hPm⟩ (by omega) y).1 (hx.subset hy)
          refine ⟨m, hm, t, ht.symm, ?_⟩
          unfold Nt.un
          rw [Nt.nodeOf_is hW hm, ← ht, List.drop_left]
        have hqpre : q ∉ pre := by
          have h := hund.sublist hx.sublist
          rw [List.nodup_append] at h
          exact fun hm => h.2.2 q hm q (by simp) rfl
        have hLl : L.length ≤ 90000 := by
          rw [← hSlen, List.length_map]
          have h := len_sub15 (l' := T.paths.map (·.1)) ((hund.sublist hx.sublist).sublist (List.sublist_append_left pre [q])) fun y hy => by
            obtain ⟨m, hm, _⟩ := hall y (List.mem_append_left _ hy)
            exact List.mem_map.2 ⟨_, hm, rfl⟩
          rw [List.length_map] at h
          have := hW.many
          omega
        have hmapq : (pre ++ [q]).map (Nt.un T P) = pre.map (Nt.un T P) ++ [(r, nq)] := by rw [List.map_append, List.map_singleton, hun]
        have hSS : ∀ r' m, (r', m) ∈ pre.map (Nt.un T P) → (P ++ r', m) ∈ T.paths ∧ r' ≠ r := by
          intro r' m h
          obtain ⟨y, hy, e⟩ := List.mem_map.1 h
          obtain ⟨m2, hm2, t, ht, e2⟩ := hall y (List.mem_append_left _ hy)
          rw [e2] at e
          cases e
          refine ⟨by rw [← ht]; exact hm2, fun e3 => hqpre ?_⟩
          rw [← hr, ← e3, ← ht]
          exact hy
        have hmmc := Nt.mm_cnt hW hSS (by rw [hr]; exact hqm)
        have hmapm : ∀ m : Mm, erm m = erm (Nt.mm T (pre.map (Nt.un T P) ++ [(r, nq)]) (pre.map (Nt.un T P)).length (r, nq)) → L.map erm ++ [erm m] = (Nt.mms T ((pre ++ [q]).map (Nt.un T P))).map erm := fun m hm => by
          rw [hmapq, Nt.mms_snoc, List.map_append, hmap, List.map_singleton, hm]
        have hXn : X.n = xl := by rw [← hxl]; exact hok.2.1.symm
        have hGb : ∀ k, Grow (fun _ => False) (w5.alloc (.cells #[.slice none 0 0] 81)) w6 k → k < w7.heap.size ∧ k ≠ w5.heap.size := fun k hk => by
          refine ⟨GG.out k hk, ?_⟩
          rcases hk with h | h
          · exact h.elim
          · simp at h; omega
        rw [hrs, hXX] at hmmc
        have HM := Lib.hid hmapm
        have HMC := Lib.hid hmmc
        have HMQ := Lib.hid hmapq
        have HH8 := Lib.hid h8
        have HDTA := Lib.hid hdat
        have HOWN := Lib.hid hown
        have HREP := Lib.hid hrep
        have HMK := Lib.hid hmk
        have HGB := Lib.hid hGb
        have H1 := Lib.hid h1
        have hpw : w7.heap.size ≤ W.heap.size := h9
        by_cases hc1 : 1 < cnt T.paths nq
        · -- several paths
          have gc : (1 : Int) < cn := by omega
          have hSl : (pre.map (Nt.un T P)).length ≤ 100000 := by omega
          have hadl : w.heap.size ≤ ad6 nq := by
            rcases (hrep.node _ _ (show (q, nq) ∈ M.paths by rw [hmk.paths]; exact hqm)).2 with h | h
            · exact h.elim
            · have := h.1; simp at this; omega
          have LOWK := Lib.hid (fun W3 W4 (hb : Below W.heap.size W W3) (hk : Keep (fun k => k = ad6 nq) W3 W4) => show Below w.heap.size W W4 from
            (hb.mono HH8.out.size).trans (hk.below (fun k e => by subst e; exact hadl) (Nat.le_trans HH8.out.size hb.size)))
          have kfo := Lib.hid (fun W3 (h : RepP (Grow (fun _ => False) (w5.alloc (.cells #[.slice none 0 0] 81)) w6) K W3 mtb M ad6 mb6) => firstOf_any hW (by omega) hmk hT h (txt q) (by omega) r hf hc1 hSl)
          rw [hXX, hSlen, ← hmapq, hs] at kfo
          have hMq : (q, nq) ∈ M.paths := by rw [hmk.paths]; exact hqm
          have KXF := Lib.hid (fun W3 W4 (hb : Below W.heap.size W W3) (hk : Keep (fun k => k = ad6 nq) W3 W4) => KeepX.ofKeep (X := NodeObj15) hk (fun k e => by
            subst e
            exact ⟨_, ((hrep.later hb).node _ _ hMq).1, _, _, rfl⟩))
          have KNE := Lib.hid (fun W2 (hb : Below W.heap.size W W2) => show W2.heap.size + 1 ≠ ad6 nq by
            have h1 := (hrep.node _ _ hMq).1.lt
            have h2 := hb.size
            omega)
          have BC := Lib.hid (fun W3 W4 (hb : Below W.heap.size W W3) (hk : KeepX NodeObj15 W3 W4) => show W4.cell? ⟨w.heap.size, 0, none⟩ = some (.pointer (some ⟨tb, 0, none⟩)) ∧ W4.cell? ⟨w.heap.size + 1, 0, none⟩ = some (.string p) ∧ W4.cell? ⟨w6.heap.size, 0, none⟩ = some (.pointer (some ⟨mtb, 0, none⟩)) ∧ W4.cell? ⟨w5.heap.size, 0, none⟩ = some (.slice A9 L.length c9) from
            ⟨(boxed_keptX (boxed_below h2 hb) hk (node_no (by decide))).cell, (boxed_keptX (boxed_below h3 hb) hk (node_no (by decide))).cell, (boxed_keptX (boxed_below h6 hb) hk (node_no (by decide))).cell, (boxed_keptX (boxed_below hv hb) hk (node_no (by decide))).cell⟩)
          have MBF := Lib.hid (fun W2 A7 c7 W4 (hb : Below W.heap.size W W2) (hk : Keep (fun k => k = ad6 nq) ((W2.alloc (.cells #[.int .i64 X.kind, .int .i64 X.mode, .int .i64 X.uid, .int .i64 X.gid, .int .i64 X.mtime, .string X.link, .slice A7 xl c7, .int .i64 cn] 92)).alloc (.cells #[.string rs, .int .i64 X.kind, .int .i64 X.mode, .int .i64 X.uid, .int .i64 X.gid, .int .i64 X.mtime, .string X.link, .slice A7 xl c7] 102)) W4) => show BX W4 (W2.heap.size + 1) 102 #[.string rs, .int .i64 X.kind, .int .i64 X.mode, .int .i64 X.uid, .int .i64 X.gid, .int .i64 X.mtime, .string X.link, .slice A7 xl c7] from
            (hk.block (W2.heap.size + 1) (by simp) (KNE.out W2 hb)).trans (bx_two15 W2 _ _ _))
          obtain ⟨fi, hfi⟩ : ∃ x : Nat, Nt.fst ((pre ++ [q]).map (Nt.un T P)) nq = x := ⟨_, rfl⟩
          have hfi0 := hfi
          rw [hmapq] at hfi0
          rw [hfi] at kfo
          rw [hfi0, hSlen] at hmmc
          have HM2 := HM.out
          rw [hSlen] at HM2
          have KF := Lib.hid kfo.out
          by_cases hlt2 : fi < L.length
          · have gl : (fi : Int) < (L.length : Nat) := by omega
            obtain ⟨A9', c9', e9', hrow, _, _⟩ := own_rowof MmC_size hown rfl
            cases e9'
            obtain ⟨b9, o9, x9, rfl, hx9, _⟩ := hrow.at_ hlt2
            obtain ⟨lk, hlk⟩ : ∃ s, txt ((pre.map (Nt.un T P) ++ [(r, nq)]).getD fi ([], 0)).1 = s := ⟨_, rfl⟩
            have hx9l : x9.1 = lk := by
              have hfS : fi < (pre.map (Nt.un T P)).length := by omega
              have e1 := congrArg (fun l : List Mm => l[fi]?) hmap
              simp only [List.getElem?_map] at e1
              rw [hx9, Nt.mms_at (List.getElem?_eq_getElem hfS)] at e1
              simp only [Option.map_some, Option.some.injEq] at e1
              have e2 := congrArg Prod.fst e1
              have e3 : ∀ (i : Nat) (y : Path × Nat), (Nt.mm T (pre.map (Nt.un T P)) i y).1 = txt y.1 := fun i y => by
                unfold Nt.mm
                split <;> rfl
              rw [← hlk, List.getD, List.getElem?_append_left hfS, List.getElem?_eq_getElem hfS, Option.getD_some, ← e3 fi]
              exact e2
            rw [hlk] at hmmc
            have CELL9 := Lib.hid (fun W3 W4 (hb : Below W.heap.size W W3) (hk : KeepX NodeObj15 W3 W4) => show W4.cell? ⟨b9, o9 + fi * 8, none⟩ = some (.string lk) by
              obtain ⟨b', o', x', e, hx', hc⟩ := ((hrow.below hb).keptX hk fun _ _ => node_no (by decide)).at_ hlt2
              cases e
              rw [hx9] at hx'
              cases hx'
              have h := hc 0 (.string x9.1) rfl
              rw [hx9l] at h
              exact h)
            have BC2 := Lib.hid (fun W2 A7 c7 W5 (hb : Below W.heap.size W ((W2.alloc (.cells #[.int .i64 X.kind, .int .i64 X.mode, .int .i64 X.uid, .int .i64 X.gid, .int .i64 X.mtime, .string X.link, .slice A7 xl c7, .int .i64 cn] 92)).alloc (.cells #[.string rs, .int .i64 X.kind, .int .i64 X.mode, .int .i64 X.uid, .int .i64 X.gid, .int .i64 X.mtime, .string X.link, .slice A7 xl c7] 102))) (hb2 : Below W.heap.size W W2) (hk : Keep (fun k => k = ad6 nq) ((W2.alloc (.cells #[.int .i64 X.kind, .int .i64 X.mode, .int .i64 X.uid, .int .i64 X.gid, .int .i64 X.mtime, .string X.link, .slice A7 xl c7, .int .i64 cn] 92)).alloc (.cells #[.string rs, .int .i64 X.kind, .int .i64 X.mode, .int .i64 X.uid, .int .i64 X.gid, .int .i64 X.mtime, .string X.link, .slice A7 xl c7] 102)) W5) => show W5.cell? ⟨w5.heap.size, 0, none⟩ = some (.slice (some ⟨b9, o9, none⟩) L.length c9) ∧ (W5.setCell ⟨W2.heap.size + 1, 1, none⟩ (.int .i64 2)).cell? ⟨w5.heap.size, 0, none⟩ = some (.slice (some ⟨b9, o9, none⟩) L.length c9) ∧ (((W5.setCell ⟨W2.heap.size + 1, 1, none⟩ (.int .i64 2)).setCell ⟨W2.heap.size + 1, 6, none⟩ (.string lk)).setCell ⟨W2.heap.size + 1, 7, none⟩ (.slice none 0 0)).cell? ⟨w5.heap.size, 0, none⟩ = some (.slice (some ⟨b9, o9, none⟩) L.length c9) by
              have hne : w5.heap.size ≠ W2.heap.size + 1 := by have := hb2.size; omega
              have h1 : Boxed W5 w5.heap.size 81 (.slice (some ⟨b9, o9, none⟩) L.length c9) := boxed_keptX (boxed_below hv hb) (KXF.out _ _ hb hk) (node_no (by decide))
              exact ⟨h1.cell, (boxed_oth hne 1 _ h1).cell, (boxed_oth hne 7 _ (boxed_oth hne 6 _ (boxed_oth hne 1 _ h1))).cell⟩)
            have CELL9S := Lib.hid (fun W2 A7 c7 W5 (hb : Below W.heap.size W ((W2.alloc (.cells #[.int .i64 X.kind, .int .i64 X.mode, .int .i64 X.uid, .int .i64 X.gid, .int .i64 X.mtime, .string X.link, .slice A7 xl c7, .int .i64 cn] 92)).alloc (.cells #[.string rs, .int .i64 X.kind, .int .i64 X.mode, .int .i64 X.uid, .int .i64 X.gid, .int .i64 X.mtime, .string X.link, .slice A7 xl c7] 102))) (hb2 : Below W.heap.size W W2) (hk : Keep (fun k => k = ad6 nq) ((W2.alloc (.cells #[.int .i64 X.kind, .int .i64 X.mode, .int .i64 X.uid, .int .i64 X.gid, .int .i64 X.mtime, .string X.link, .slice A7 xl c7, .int .i64 cn] 92)).alloc (.cells #[.string rs, .int .i64 X.kind, .int .i64 X.mode, .int .i64 X.uid, .int .i64 X.gid, .int .i64 X.mtime, .string X.link, .slice A7 xl c7] 102)) W5) => show (W5.setCell ⟨W2.heap.size + 1, 1, none⟩ (.int .i64 2)).cell? ⟨b9, o9 + fi * 8, none⟩ = some (.string lk) by
              have hne : b9 ≠ W2.heap.size + 1 := by have h1 := (World.ownsRow.lt hown b9 rfl).2; have h2 := hb2.size; omega
              exact cell_oth hne 1 _ (CELL9.out _ _ hb (KXF.out _ _ hb hk)))
            have hmm1 : erm ((rs, { X with kind := 2, link := lk, A := none, n := 0, c := 0, xs := [] }) : Mm) = erm (Nt.mm T (pre.map (Nt.un T P) ++ [(r, nq)]) L.length (r, nq)) := by
              rw [hmmc, if_pos ⟨hc1, hlt2⟩]
            have hBW : ∀ W2 A7 c7 W4 (hb2 : Below W.heap.size W W2) (hkp : Keep (fun k => k = ad6 nq) ((W2.alloc (.cells #[.int .i64 X.kind, .int .i64 X.mode, .int .i64 X.uid, .int .i64 X.gid, .int .i64 X.mtime, .string X.link, .slice A7 xl c7, .int .i64 cn] 92)).alloc (.cells #[.string rs, .int .i64 X.kind, .int .i64 X.mode, .int .i64 X.uid, .int .i64 X.gid, .int .i64 X.mtime, .string X.link, .slice A7 xl c7] 102)) W4), Below w.heap.size W (((((W4.setCell ⟨W2.heap.size + 1, 1, none⟩ (.int .i64 2)).setCell ⟨W2.heap.size + 1, 6, none⟩ (.string lk)).setCell ⟨W2.heap.size + 1, 7, none⟩ (.slice none 0 0)).alloc (.cells #[.string rs, .int .i64 2, .int .i64 X.mode, .int .i64 X.uid, .int .i64 X.gid, .int .i64 X.mtime, .string lk, .slice none 0 0] 102)).drew) := fun W2 A7 c7 W4 hb2 hkp => by
              have h1 := LOWK.out _ _ (bthen (bthen hb2 (below_new W2 (.cells #[.int .i64 X.kind, .int .i64 X.mode, .int .i64 X.uid, .int .i64 X.gid, .int .i64 X.mtime, .string X.link, .slice A7 xl c7, .int .i64 cn] 92))) (below_new _ (.cells #[.string rs, .int .i64 X.kind, .int .i64 X.mode, .int .i64 X.uid, .int .i64 X.gid, .int .i64 X.mtime, .string X.link, .slice A7 xl c7] 102))) hkp
              have h2 := ((h1.setCell (p := ⟨W2.heap.size + 1, 1, none⟩) (by have := HH8.out.size; have := hb2.size; simp; omega) (.int .i64 2)).setCell (p := ⟨W2.heap.size + 1, 6, none⟩) (by have := HH8.out.size; have := hb2.size; simp; omega) (.string lk)).setCell (p := ⟨W2.heap.size + 1, 7, none⟩) (by have := HH8.out.size; have := hb2.size; simp; omega) (.slice none 0 0)
              have h3 := h2.trans ((below_new (((W4.setCell ⟨W2.heap.size + 1, 1, none⟩ (.int .i64 2)).setCell ⟨W2.heap.size + 1, 6, none⟩ (.string lk)).setCell ⟨W2.heap.size + 1, 7, none⟩ (.slice none 0 0)) (.cells #[.string rs, .int .i64 2, .int .i64 X.mode, .int .i64 X.uid, .int .i64 X.gid, .int .i64 X.mtime, .string lk, .slice none 0 0] 102)).mono (Nat.le_trans HH8.out.size h2.size))
              exact ⟨h3.os, h3.tape, h3.output, h3.size, h3.block⟩
            have hXW : ∀ W2 A7 c7 W4 (hb2 : Below W.heap.size W W2) (hkp : Keep (fun k => k = ad6 nq) ((W2.alloc (.cells #[.int .i64 X.kind, .int .i64 X.mode, .int .i64 X.uid, .int .i64 X.gid, .int .i64 X.mtime, .string X.link, .slice A7 xl c7, .int .i64 cn] 92)).alloc (.cells #[.string rs, .int .i64 X.kind, .int .i64 X.mode, .int .i64 X.uid, .int .i64 X.gid, .int .i64 X.mtime, .string X.link, .slice A7 xl c7] 102)) W4), KeepX NmObj W (((((W4.setCell ⟨W2.heap.size + 1, 1, none⟩ (.int .i64 2)).setCell ⟨W2.heap.size + 1, 6, none⟩ (.string lk)).setCell ⟨W2.heap.size + 1, 7, none⟩ (.slice none 0 0)).alloc (.cells #[.string rs, .int .i64 2, .int .i64 X.mode, .int .i64 X.uid, .int .i64 X.gid, .int .i64 X.mtime, .string lk, .slice none 0 0] 102)).drew) := fun W2 A7 c7 W4 hb2 hkp => by
              have h1 := (KeepX.ofBelow (bthen (bthen hb2 (below_new W2 (.cells #[.int .i64 X.kind, .int .i64 X.mode, .int .i64 X.uid, .int .i64 X.gid, .int .i64 X.mtime, .string X.link, .slice A7 xl c7, .int .i64 cn] 92))) (below_new _ (.cells #[.string rs, .int .i64 X.kind, .int .i64 X.mode, .int .i64 X.uid, .int .i64 X.gid, .int .i64 X.mtime, .string X.link, .slice A7 xl c7] 102)))).trans ((KXF.out _ _ (bthen (bthen hb2 (below_new W2 (.cells #[.int .i64 X.kind, .int .i64 X.mode, .int .i64 X.uid, .int .i64 X.gid, .int .i64 X.mtime, .string X.link, .slice A7 xl c7, .int .i64 cn] 92))) (below_new _ (.cells #[.string rs, .int .i64 X.kind, .int .i64 X.mode, .int .i64 X.uid, .int .i64 X.gid, .int .i64 X.mtime, .string X.link, .slice A7 xl c7] 102))) hkp).weak node_nm)
              have m1 := MBF.out _ _ _ _ hb2 hkp
              have h2 := ((h1.trans (KeepX.setCell (j := 1) m1 ⟨_, _, _, rfl, .inr rfl⟩ (.int .i64 2))).trans (KeepX.setCell (j := 6) (m1.set 1 (.int .i64 2)) ⟨_, _, _, rfl, .inr rfl⟩ (.string lk))).trans (KeepX.setCell (j := 7) ((m1.set 1 (.int .i64 2)).set 6 (.string lk)) ⟨_, _, _, rfl, .inr rfl⟩ (.slice none 0 0))
              have h3 := h2.trans (KeepX.ofBelow (below_new (((W4.setCell ⟨W2.heap.size + 1, 1, none⟩ (.int .i64 2)).setCell ⟨W2.heap.size + 1, 6, none⟩ (.string lk)).setCell ⟨W2.heap.size + 1, 7, none⟩ (.slice none 0 0)) (.cells #[.string rs, .int .i64 2, .int .i64 X.mode, .int .i64 X.uid, .int .i64 X.gid, .int .i64 X.mtime, .string lk, .slice none 0 0] 102)))
              exact ⟨h3.os, h3.tape, h3.output, h3.size, h3.block⟩
            have hSB : ∀ W2 A7 c7 W4 (hb2 : Below W.heap.size W W2) (hkp : Keep (fun k => k = ad6 nq) ((W2.alloc (.cells #[.int .i64 X.kind, .int .i64 X.mode, .int .i64 X.uid, .int .i64 X.gid, .int .i64 X.mtime, .string X.link, .slice A7 xl c7, .int .i64 cn] 92)).alloc (.cells #[.string rs, .int .i64 X.kind, .int .i64 X.mode, .int .i64 X.uid, .int .i64 X.gid, .int .i64 X.mtime, .string X.link, .slice A7 xl c7] 102)) W4) k, k < W.heap.size → (((((W4.setCell ⟨W2.heap.size + 1, 1, none⟩ (.int .i64 2)).setCell ⟨W2.heap.size + 1, 6, none⟩ (.string lk)).setCell ⟨W2.heap.size + 1, 7, none⟩ (.slice none 0 0)).alloc (.cells #[.string rs, .int .i64 2, .int .i64 X.mode, .int .i64 X.uid, .int .i64 X.gid, .int .i64 X.mtime, .string lk, .slice none 0 0] 102)).drew).heap[k]? = W4.heap[k]? := fun W2 A7 c7 W4 hb2 hkp k hk => by
              have e1 := hb2.size
              have e2 := hkp.size
              have e3 : k < (((W4.setCell ⟨W2.heap.size + 1, 1, none⟩ (.int .i64 2)).setCell ⟨W2.heap.size + 1, 6, none⟩ (.string lk)).setCell ⟨W2.heap.size + 1, 7, none⟩ (.slice none 0 0)).heap.size := by simp at e2 ⊢; omega
              refine ((below_new (((W4.setCell ⟨W2.heap.size + 1, 1, none⟩ (.int .i64 2)).setCell ⟨W2.heap.size + 1, 6, none⟩ (.string lk)).setCell ⟨W2.heap.size + 1, 7, none⟩ (.slice none 0 0)) (.cells #[.string rs, .int .i64 2, .int .i64 X.mode, .int .i64 X.uid, .int .i64 X.gid, .int .i64 X.mtime, .string lk, .slice none 0 0] 102)).block k e3).trans ?_
              rw [heap_setCell_other _ _ _ _ (show k ≠ W2.heap.size + 1 by omega), heap_setCell_other _ _ _ _ (show k ≠ W2.heap.size + 1 by omega), heap_setCell_other _ _ _ _ (show k ≠ W2.heap.size + 1 by omega)]
            have hOW : ∀ W2 A7 c7 W4 (hb2 : Below W.heap.size W W2) (hkp : Keep (fun k => k = ad6 nq) ((W2.alloc (.cells #[.int .i64 X.kind, .int .i64 X.mode, .int .i64 X.uid, .int .i64 X.gid, .int .i64 X.mtime, .string X.link, .slice A7 xl c7, .int .i64 cn] 92)).alloc (.cells #[.string rs, .int .i64 X.kind, .int .i64 X.mode, .int .i64 X.uid, .int .i64 X.gid, .int .i64 X.mtime, .string X.link, .slice A7 xl c7] 102)) W4), World.ownsRow (((((W4.setCell ⟨W2.heap.size + 1, 1, none⟩ (.int .i64 2)).setCell ⟨W2.heap.size + 1, 6, none⟩ (.string lk)).setCell ⟨W2.heap.size + 1, 7, none⟩ (.slice none 0 0)).alloc (.cells #[.string rs, .int .i64 2, .int .i64 X.mode, .int .i64 X.uid, .int .i64 X.gid, .int .i64 X.mtime, .string lk, .slice none 0 0] 102)).drew) w7.heap.size 102 8 (.slice (some ⟨b9, o9, none⟩) L.length c9) L.length (rl MmC L) := fun W2 A7 c7 W4 hb2 hkp => by
              have h1 := own_keptX (own_keep13 hown fun k hk => (bthen (bthen hb2 (below_new W2 (.cells #[.int .i64 X.kind, .int .i64 X.mode, .int .i64 X.uid, .int .i64 X.gid, .int .i64 X.mtime, .string X.link, .slice A7 xl c7, .int .i64 cn] 92))) (below_new _ (.cells #[.string rs, .int .i64 X.kind, .int .i64 X.mode, .int .i64 X.uid, .int .i64 X.gid, .int .i64 X.mtime, .string X.link, .slice A7 xl c7] 102))).block k (World.ownsRow.lt hown k hk).2) (KXF.out _ _ (bthen (bthen hb2 (below_new W2 (.cells #[.int .i64 X.kind, .int .i64 X.mode, .int .i64 X.uid, .int .i64 X.gid, .int .i64 X.mtime, .string X.link, .slice A7 xl c7, .int .i64 cn] 92))) (below_new _ (.cells #[.string rs, .int .i64 X.kind, .int .i64 X.mode, .int .i64 X.uid, .int .i64 X.gid, .int .i64 X.mtime, .string X.link, .slice A7 xl c7] 102))) hkp) (fun _ _ => node_no (by decide))
              exact own_keep13 h1 fun k hk => hSB W2 A7 c7 W4 hb2 hkp k (World.ownsRow.lt hown k hk).2
            have APP := Lib.hid (fun W2 A7 c7 W4 (hb2 : Below W.heap.size W W2) (hkp : Keep (fun k => k = ad6 nq) ((W2.alloc (.cells #[.int .i64 X.kind, .int .i64 X.mode, .int .i64 X.uid, .int .i64 X.gid, .int .i64 X.mtime, .string X.link, .slice A7 xl c7, .int .i64 cn] 92)).alloc (.cells #[.string rs, .int .i64 X.kind, .int .i64 X.mode, .int .i64 X.uid, .int .i64 X.gid, .int .i64 X.mtime, .string X.link, .slice A7 xl c7] 102)) W4) =>
              app_mmN (w := ((((W4.setCell ⟨W2.heap.size + 1, 1, none⟩ (.int .i64 2)).setCell ⟨W2.heap.size + 1, 6, none⟩ (.string lk)).setCell ⟨W2.heap.size + 1, 7, none⟩ (.slice none 0 0)).alloc (.cells #[.string rs, .int .i64 2, .int .i64 X.mode, .int .i64 X.uid, .int .i64 X.gid, .int .i64 X.mtime, .string lk, .slice none 0 0] 102)).drew) rfl (hOW W2 A7 c7 W4 hb2 hkp) (rowof_one (C := MmC) (z := 8) (x := ((rs, { X with kind := 2, link := lk, A := none, n := 0, c := 0, xs := [] }) : Mm)) (show BX (((((W4.setCell ⟨W2.heap.size + 1, 1, none⟩ (.int .i64 2)).setCell ⟨W2.heap.size + 1, 6, none⟩ (.string lk)).setCell ⟨W2.heap.size + 1, 7, none⟩ (.slice none 0 0)).alloc (.cells #[.string rs, .int .i64 2, .int .i64 X.mode, .int .i64 X.uid, .int .i64 X.gid, .int .i64 X.mtime, .string lk, .slice none 0 0] 102)).drew) W4.heap.size 102 #[.string rs, .int .i64 2, .int .i64 X.mode, .int .i64 X.uid, .int .i64 X.gid, .int .i64 X.mtime, .string lk, .slice none 0 0] from bx_at15 (by simp))) 1 (by omega) (Nat.le_trans hpw (hXW W2 A7 c7 W4 hb2 hkp).size))
            have END := Lib.hid (fun W2 A7 c7 W4 M' W9 v8 (hb2 : Below W.heap.size W W2) (hkp : Keep (fun k => k = ad6 nq) ((W2.alloc (.cells #[.int .i64 X.kind, .int .i64 X.mode, .int .i64 X.uid, .int .i64 X.gid, .int .i64 X.mtime, .string X.link, .slice A7 xl c7, .int .i64 cn] 92)).alloc (.cells #[.string rs, .int .i64 X.kind, .int .i64 X.mode, .int .i64 X.uid, .int .i64 X.gid, .int .i64 X.mtime, .string X.link, .slice A7 xl c7] 102)) W4) (hmk4 : Nt.Marks T M' ((pre ++ [q]).map (Nt.un T P)) fl) (hrep4 : RepP (Grow (fun _ => False) (w5.alloc (.cells #[.slice none 0 0] 81)) w6) K W4 mtb M' ad6 mb6) (hown9 : World.ownsRow W9 w7.heap.size 102 8 v8 (L.length + 1) (rl MmC (L ++ [((rs, { X with kind := 2, link := lk, A := none, n := 0, c := 0, xs := [] }) : Mm)]))) (hgr : (((((W4.setCell ⟨W2.heap.size + 1, 1, none⟩ (.int .i64 2)).setCell ⟨W2.heap.size + 1, 6, none⟩ (.string lk)).setCell ⟨W2.heap.size + 1, 7, none⟩ (.slice none 0 0)).alloc (.cells #[.string rs, .int .i64 2, .int .i64 X.mode, .int .i64 X.uid, .int .i64 X.gid, .int .i64 X.mtime, .string lk, .slice none 0 0] 102)).drew).grownBy W9 (Value.slice (some ⟨b9, o9, none⟩) L.length c9).ownBlock) =>
              round_end (m := ((rs, { X with kind := 2, link := lk, A := none, n := 0, c := 0, xs := [] }) : Mm)) HBX.out HV.out HDTA.out HH8.out (hXW W2 A7 c7 W4 hb2 hkp) (hOW W2 A7 c7 W4 hb2 hkp) L7.out.size (hBW W2 A7 c7 W4 hb2 hkp)
                (⟨⟨RB.nil, fun h => absurd h (Nat.lt_irrefl 0)⟩, Nat.le_refl _, Nat.zero_le _⟩ : MmD (((((W4.setCell ⟨W2.heap.size + 1, 1, none⟩ (.int .i64 2)).setCell ⟨W2.heap.size + 1, 6, none⟩ (.string lk)).setCell ⟨W2.heap.size + 1, 7, none⟩ (.slice none 0 0)).alloc (.cells #[.string rs, .int .i64 2, .int .i64 X.mode, .int .i64 X.uid, .int .i64 X.gid, .int .i64 X.mtime, .string lk, .slice none 0 0] 102)).drew) ((rs, { X with kind := 2, link := lk, A := none, n := 0, c := 0, xs := [] }) : Mm)) hmk4 (hrep4.kept fun k hk _ => hSB W2 A7 c7 W4 hb2 hkp k (Nat.lt_of_lt_of_le (HGB.out k hk).1 hpw)) HGB.out ⟨by omega, by omega⟩ (by omega) (HM2 _ hmm1) hown9 hgr)
            clear hmm1 hBW hXW hSB hOW
            clear hlk hx9l hx9 hrow
            clear hs k8 hinf hrest hmapm hmmc hmapq h8 hdat hown hrep hmk hGb h1 hSS hall hund hqpre hun hXX hxl hmap hBx hv h2 h3 h4 h5 h6 kfo hSl hfi hMq hadl hfi0 HM2
            gi_wp2_with (first
            | (refine ⟨trivial, ?_⟩; gi_at_call 41; refine (CallsIn.inRound l (callsIn_wide.2 K8.out)).mono ?_; rintro e W2 ⟨vd, rfl, hvd, hb2⟩; obtain ⟨A7, c7, rfl⟩ := row_slice (hvd trivial); have ba := bthen hb2 (below_new W2 (.cells #[.int .i64 X.kind, .int .i64 X.mode, .int .i64 X.uid, .int .i64 X.gid, .int .i64 X.mtime, .string X.link, .slice A7 xl c7, .int .i64 cn] 92)); obtain ⟨a0, a1, a2, a3⟩ := BB.out _ ba; obtain ⟨b0, b1, b2, b3⟩ := BB.out _ (bthen ba (below_new (W2.alloc (.cells #[.int .i64 X.kind, .int .i64 X.mode, .int .i64 X.uid, .int .i64 X.gid, .int .i64 X.mtime, .string X.link, .slice A7 xl c7, .int .i64 cn] 92)) (.cells #[.string ⟨#[]⟩, .int .i64 X.kind, .int .i64 X.mode, .int .i64 X.uid, .int .i64 X.gid, .int .i64 X.mtime, .string X.link, .slice A7 xl c7] 102))); have bc := bthen ba (below_new (W2.alloc (.cells #[.int .i64 X.kind, .int .i64 X.mode, .int .i64 X.uid, .int .i64 X.gid, .int .i64 X.mtime, .string X.link, .slice A7 xl c7, .int .i64 cn] 92)) (.cells #[.string rs, .int .i64 X.kind, .int .i64 X.mode, .int .i64 X.uid, .int .i64 X.gid, .int .i64 X.mtime, .string X.link, .slice A7 xl c7] 102)); obtain ⟨c0, c1, c2, c3⟩ := BB.out _ bc; have HVD := Lib.hid (hvd trivial); have HBC := Lib.hid bc; clear hvd)
            | (refine ⟨trivial, ?_⟩; gi_at_call 85; refine (CallsIn.inRound l (callsIn_wide.2 (KR.out _))).mono ?_; rintro e w' ⟨rfl, rfl⟩)
            | (refine ⟨trivial, ?_⟩; gi_at_call 86; refine (CallsIn.inRound l (callsIn_wide.2 (KF.out _ (HREP.out.later HBC.out)))).mono ?_; rintro e W4 ⟨rfl, M', hmk4, hrep4, hkp4⟩; have HKX := Lib.hid (KXF.out _ _ HBC.out hkp4); obtain ⟨d0, d1, d2, d3⟩ := BC.out _ _ HBC.out HKX.out; have mb4 := MBF.out _ _ _ _ hb2 hkp4; have m0 := mb4.cell (j := 0) rfl; have m1 := mb4.cell (j := 1) rfl; have m2 := mb4.cell (j := 2) rfl; have m3 := mb4.cell (j := 3) rfl; have m4 := mb4.cell (j := 4) rfl; have m5 := mb4.cell (j := 5) rfl; have m6 := mb4.cell (j := 6) rfl; have m7 := mb4.cell (j := 7) rfl; have HM4 := Lib.hid mb4; have HMK4 := Lib.hid hmk4; have HREP4 := Lib.hid hrep4; have HKP4 := Lib.hid hkp4; have c9l := CELL9.out _ _ HBC.out HKX.out; have c9l5 : W4.drew.cell? ⟨b9, o9 + fi * 8, none⟩ = some (.string lk) := c9l; have HKP5 := Lib.hid (show Keep (fun k => k = ad6 nq) _ W4.drew from ⟨hkp4.os, hkp4.tape, hkp4.output, hkp4.size, hkp4.block⟩); have HREP5 := Lib.hid (hrep4.kept (w' := W4.drew) fun _ _ _ => rfl); have mb5 := MBF.out _ _ _ _ hb2 HKP5.out; have f1 := mb5.free 1; have mb51 := mb5.set 1 (.int .i64 2); have f6 : (W4.setCell ⟨W2.heap.size + 1, 1, none⟩ (.int .i64 2)).drew.frozen? ⟨W2.heap.size + 1, 6, none⟩ = false := mb51.free 6; have c9s : (W4.setCell ⟨W2.heap.size + 1, 1, none⟩ (.int .i64 2)).drew.cell? ⟨b9, o9 + fi * 8, none⟩ = some (.string lk) := CELL9S.out _ _ _ W4.drew HBC.out hb2 HKP5.out; have mb56 := mb51.set 6 (.string lk); have f7 : ((W4.setCell ⟨W2.heap.size + 1, 1, none⟩ (.int .i64 2)).setCell ⟨W2.heap.size + 1, 6, none⟩ (.string lk)).drew.frozen? ⟨W2.heap.size + 1, 7, none⟩ = false := mb56.free 7; have mb57 := mb56.set 7 (.slice none 0 0); have n0 : (((W4.setCell ⟨W2.heap.size + 1, 1, none⟩ (.int .i64 2)).setCell ⟨W2.heap.size + 1, 6, none⟩ (.string lk)).setCell ⟨W2.heap.size + 1, 7, none⟩ (.slice none 0 0)).drew.cell? ⟨W2.heap.size + 1, 0, none⟩ = some (.string rs) := mb57.cell (j := 0) rfl; have n1 : (((W4.setCell ⟨W2.heap.size + 1, 1, none⟩ (.int .i64 2)).setCell ⟨W2.heap.size + 1, 6, none⟩ (.string lk)).setCell ⟨W2.heap.size + 1, 7, none⟩ (.slice none 0 0)).drew.cell? ⟨W2.heap.size + 1, 1, none⟩ = some (.int .i64 2) := mb57.cell (j := 1) rfl; have n2 : (((W4.setCell ⟨W2.heap.size + 1, 1, none⟩ (.int .i64 2)).setCell ⟨W2.heap.size + 1, 6, none⟩ (.string lk)).setCell ⟨W2.heap.size + 1, 7, none⟩ (.slice none 0 0)).drew.cell? ⟨W2.heap.size + 1, 2, none⟩ = some (.int .i64 X.mode) := mb57.cell (j := 2) rfl; have n3 : (((W4.setCell ⟨W2.heap.size + 1, 1, none⟩ (.int .i64 2)).setCell ⟨W2.heap.size + 1, 6, none⟩ (.string lk)).setCell ⟨W2.heap.size + 1, 7, none⟩ (.slice none 0 0)).drew.cell? ⟨W2.heap.size + 1, 3, none⟩ = some (.int .i64 X.uid) := mb57.cell (j := 3) rfl; have n4 : (((W4.setCell ⟨W2.heap.size + 1, 1, none⟩ (.int .i64 2)).setCell ⟨W2.heap.size + 1, 6, none⟩ (.string lk)).setCell ⟨W2.heap.size + 1, 7, none⟩ (.slice none 0 0)).drew.cell? ⟨W2.heap.size + 1, 4, none⟩ = some (.int .i64 X.gid) := mb57.cell (j := 4) rfl; have n5 : (((W4.setCell ⟨W2.heap.size + 1, 1, none⟩ (.int .i64 2)).setCell ⟨W2.heap.size + 1, 6, none⟩ (.string lk)).setCell ⟨W2.heap.size + 1, 7, none⟩ (.slice none 0 0)).drew.cell? ⟨W2.heap.size + 1, 5, none⟩ = some (.int .i64 X.mtime) := mb57.cell (j := 5) rfl; have n6 : (((W4.setCell ⟨W2.heap.size + 1, 1, none⟩ (.int .i64 2)).setCell ⟨W2.heap.size + 1, 6, none⟩ (.string lk)).setCell ⟨W2.heap.size + 1, 7, none⟩ (.slice none 0 0)).drew.cell? ⟨W2.heap.size + 1, 6, none⟩ = some (.string lk) := mb57.cell (j := 6) rfl; have n7 : (((W4.setCell ⟨W2.heap.size + 1, 1, none⟩ (.int .i64 2)).setCell ⟨W2.heap.size + 1, 6, none⟩ (.string lk)).setCell ⟨W2.heap.size + 1, 7, none⟩ (.slice none 0 0)).drew.cell? ⟨W2.heap.size + 1, 7, none⟩ = some (.slice none 0 0) := mb57.cell (j := 7) rfl; have x0 := BC2.out _ _ _ W4.drew HBC.out hb2 HKP5.out; have x1 := x0.1; have x2 : (W4.setCell ⟨W2.heap.size + 1, 1, none⟩ (.int .i64 2)).drew.cell? ⟨w5.heap.size, 0, none⟩ = some (.slice (some ⟨b9, o9, none⟩) L.length c9) := x0.2.1; have x3 : (((W4.setCell ⟨W2.heap.size + 1, 1, none⟩ (.int .i64 2)).setCell ⟨W2.heap.size + 1, 6, none⟩ (.string lk)).setCell ⟨W2.heap.size + 1, 7, none⟩ (.slice none 0 0)).drew.cell? ⟨w5.heap.size, 0, none⟩ = some (.slice (some ⟨b9, o9, none⟩) L.length c9) := x0.2.2; clear mb51 mb56 mb57 x0 mb5; clear hmk4 hrep4 hkp4 mb4))
            refine wpIn_region_any (by kernel_rfl) ?_
            refine wpAnyIn_into rfl (no_defer15 (by kernel_rfl)) _ _ _ _ ?_
            change wpAnyIn _ _ _ _ _ _ _ _ _ (World.drew _)
            refine wpAnyIn_take (i := 1) (v := ?_) rfl rfl (by kernel_rfl) (by kernel_rfl) (by kernel_rfl) (fun _ _ _ h => h) ⟨Or.inl ⟨by rfl, ?_⟩, fun _ => rfl⟩ ?_
            rotate_left
            · intro w
              go_simp
              with_reducible rfl
            refine wpAnyIn_take (i := 5) (v := ?_) rfl rfl (by kernel_rfl) (by kernel_rfl) (by kernel_rfl) (fun _ _ _ h => h) ⟨Or.inl ⟨by rfl, ?_⟩, fun _ => rfl⟩ ?_
            rotate_left
            · intro w
              go_simp
              with_reducible rfl
            refine wpAnyIn_ready (rs := [0, 6]) (by kernel_rfl) (by simp) ?_
            refine AllReadyIn.cons rfl (fun K hK => ?_) (AllReadyIn.cons rfl (fun K hK => ?_) AllReadyIn.nil)
            · go_simp
              refine hK _ _ ?_
              clear hK K
              refine wpAnyIn_take (i := 2) (v := ?_) rfl rfl (by kernel_rfl) (by kernel_rfl) (by kernel_rfl) (fun _ _ _ h => h) ⟨Or.inl ⟨by rfl, ?_⟩, fun _ => rfl⟩ ?_
              rotate_left
              · intro w
                go_simp
                with_reducible rfl
              refine wpAnyIn_take (i := 3) (v := ?_) rfl rfl (by kernel_rfl) (by kernel_rfl) (by kernel_rfl) (fun _ _ _ h => h) ⟨Or.inl ⟨by rfl, ?_⟩, fun _ => rfl⟩ ?_
              rotate_left
              · intro w
                go_simp
                with_reducible rfl
              refine wpAnyIn_ready (rs := [4, 6]) (by kernel_rfl) (by simp) ?_
              refine AllReadyIn.cons rfl (fun K hK => ?_) (AllReadyIn.cons rfl (fun K hK => ?_) AllReadyIn.nil)
              · go_simp
                refine hK _ _ ?_
                clear hK K
                refine wpAnyIn_ready (rs := [6]) (by kernel_rfl) (by simp) ?_
                refine AllReadyIn.cons rfl (fun K hK => ?_) AllReadyIn.nil
                go_simp
                refine hK _ _ ?_
                clear hK K
                refine wpAnyIn_take (i := 7) (v := ?_) rfl rfl (by kernel_rfl) (by kernel_rfl) (by kernel_rfl) (fun _ _ _ h => h) ⟨Or.inl ⟨by rfl, ?_⟩, fun _ => rfl⟩ ?_
                rotate_left
                · intro w
                  go_simp
                  with_reducible rfl
                refine wpAnyIn_ready (rs := [8]) (by kernel_rfl) (by simp) ?_
                refine AllReadyIn.cons rfl (fun K hK => ?_) AllReadyIn.nil
                go_simp
                refine hK _ _ ?_
                clear hK K
                refine wpAnyIn_take (i := 9) (v := ?_) rfl rfl (by kernel_rfl) (by kernel_rfl) (by kernel_rfl) (fun _ _ _ h => h) ⟨Or.inl ⟨by rfl, ?_⟩, fun _ => rfl⟩ ?_
                rotate_left
                · intro w
                  go_simp
                  with_reducible rfl
                refine wpAnyIn_ready (rs := [10]) (by kernel_rfl) (by simp) ?_
                refine AllReadyIn.cons rfl (fun K hK => ?_) AllReadyIn.nil
                go_simp
                refine hK _ _ ?_
                clear hK K
                refine wpAnyIn_done (by kernel_rfl) ?_ _
                gi_wp2_with (gi_at_builtin; obtain ⟨v8, W9, hrun, hown9, hgr, _⟩ := APP.out W2 A7 c7 W4 hb2 HKP4.out; refine append_in15 rfl _ _ 81 81 rfl _ _ rfl rfl hrun ?_; obtain ⟨A8, c8, rfl, _, _, _⟩ := own_rowof MmC_size hown9 (by rw [List.length_append]; rfl); have RE := Lib.hid (END.out W2 A7 c7 W4 M' W9 _ hb2 HKP4.out HMK4.out HREP4.out hown9 hgr); have e9 := RE.out.1.cell; have f9 := RE.out.1.frozen; clear hrun hown9 hgr)
                exact ⟨RE.out.2.1, RE.out.2.2.1, fun q' hq' => (List.mem_append.1 hq').elim (H1.out q') (fun e => by obtain rfl : q' = q := (by simpa using e); rw [HSS.out]; exact hs3), RE.out.2.2.2.1.1, RE.out.2.2.2.1.2.1, RE.out.2.2.2.1.2.2.1, RE.out.2.2.2.1.2.2.2.1, RE.out.2.2.2.1.2.2.2.2, RE.out.2.2.2.2.1, RE.out.2.2.2.2.2.1, Nat.le_trans hpw RE.out.2.2.2.2.2.2⟩
              · go_simp
                refine hK _ _ ?_
                clear hK K
                refine wpAnyIn_ready (rs := [4]) (by kernel_rfl) (by simp) ?_
                refine AllReadyIn.cons rfl (fun K hK => ?_) AllReadyIn.nil
                go_simp
                refine hK _ _ ?_
                clear hK K
                refine wpAnyIn_take (i := 7) (v := ?_) rfl rfl (by kernel_rfl) (by kernel_rfl) (by kernel_rfl) (fun _ _ _ h => h) ⟨Or.inl ⟨by rfl, ?_⟩, fun _ => rfl⟩ ?_
                rotate_left
                · intro w
                  go_simp
                  with_reducible rfl
                refine wpAnyIn_ready (rs := [8]) (by kernel_rfl) (by simp) ?_
                refine AllReadyIn.cons rfl (fun K hK => ?_) AllReadyIn.nil
                go_simp
                refine hK _ _ ?_
                clear hK K
                refine wpAnyIn_take (i := 9) (v := ?_) rfl rfl (by kernel_rfl) (by kernel_rfl) (by kernel_rfl) (fun _ _ _ h => h) ⟨Or.inl ⟨by rfl, ?_⟩, fun _ => rfl⟩ ?_
                rotate_left
                · intro w
                  go_simp
                  with_reducible rfl
                refine wpAnyIn_ready (rs := [10]) (by kernel_rfl) (by simp) ?_
                refine AllReadyIn.cons rfl (fun K hK => ?_) AllReadyIn.nil
                go_simp
                refine hK _ _ ?_
                clear hK K
                refine wpAnyIn_done (by kernel_rfl) ?_ _
                gi_wp2_with (gi_at_builtin; obtain ⟨v8, W9, hrun, hown9, hgr, _⟩ := APP.out W2 A7 c7 W4 hb2 HKP4.out; refine append_in15 rfl _ _ 81 81 rfl _ _ rfl rfl hrun ?_; obtain ⟨A8, c8, rfl, _, _, _⟩ := own_rowof MmC_size hown9 (by rw [List.length_append]; rfl); have RE := Lib.hid (END.out W2 A7 c7 W4 M' W9 _ hb2 HKP4.out HMK4.out HREP4.out hown9 hgr); have e9 := RE.out.1.cell; have f9 := RE.out.1.frozen; clear hrun hown9 hgr)
                exact ⟨RE.out.2.1, RE.out.2.2.1, fun q' hq' => (List.mem_append.1 hq').elim (H1.out q') (fun e => by obtain rfl : q' = q := (by simpa using e); rw [HSS.out]; exact hs3), RE.out.2.2.2.1.1, RE.out.2.2.2.1.2.1, RE.out.2.2.2.1.2.2.1, RE.out.2.2.2.1.2.2.2.1, RE.out.2.2.2.1.2.2.2.2, RE.out.2.2.2.2.1, RE.out.2.2.2.2.2.1, Nat.le_trans hpw RE.out.2.2.2.2.2.2⟩
            · go_simp
              refine hK _ _ ?_
              clear hK K
              refine wpAnyIn_ready (rs := [0]) (by kernel_rfl) (by simp) ?_
              refine AllReadyIn.cons rfl (fun K hK => ?_) AllReadyIn.nil
              go_simp
              refine hK _ _ ?_
              clear hK K
              refine wpAnyIn_take (i := 2) (v := ?_) rfl rfl (by kernel_rfl) (by kernel_rfl) (by kernel_rfl) (fun _ _ _ h => h) ⟨Or.inl ⟨by rfl, ?_⟩, fun _ => rfl⟩ ?_
              rotate_left
              · intro w
                go_simp
                with_reducible rfl
              refine wpAnyIn_take (i := 3) (v := ?_) rfl rfl (by kernel_rfl) (by kernel_rfl) (by kernel_rfl) (fun _ _ _ h => h) ⟨Or.inl ⟨by rfl, ?_⟩, fun _ => rfl⟩ ?_
              rotate_left
              · intro w
                go_simp
                with_reducible rfl
              refine wpAnyIn_ready (rs := [4]) (by kernel_rfl) (by simp) ?_
              refine AllReadyIn.cons rfl (fun K hK => ?_) AllReadyIn.nil
              go_simp
              refine hK _ _ ?_
              clear hK K
              refine wpAnyIn_take (i := 7) (v := ?_) rfl rfl (by kernel_rfl) (by kernel_rfl) (by kernel_rfl) (fun _ _ _ h => h) ⟨Or.inl ⟨by rfl, ?_⟩, fun _ => rfl⟩ ?_
              rotate_left
              · intro w
                go_simp
                with_reducible rfl
              refine wpAnyIn_ready (rs := [8]) (by kernel_rfl) (by simp) ?_
              refine AllReadyIn.cons rfl (fun K hK => ?_) AllReadyIn.nil
              go_simp
              refine hK _ _ ?_
              clear hK K
              refine wpAnyIn_take (i := 9) (v := ?_) rfl rfl (by kernel_rfl) (by kernel_rfl) (by kernel_rfl) (fun _ _ _ h => h) ⟨Or.inl ⟨by rfl, ?_⟩, fun _ => rfl⟩ ?_
              rotate_left
              · intro w
                go_simp
                with_reducible rfl
              refine wpAnyIn_ready (rs := [10]) (by kernel_rfl) (by simp) ?_
              refine AllReadyIn.cons rfl (fun K hK => ?_) AllReadyIn.nil
              go_simp
              refine hK _ _ ?_
              clear hK K
              refine wpAnyIn_done (by kernel_rfl) ?_ _
              gi_wp2_with (gi_at_builtin; obtain ⟨v8, W9, hrun, hown9, hgr, _⟩ := APP.out W2 A7 c7 W4 hb2 HKP4.out; refine append_in15 rfl _ _ 81 81 rfl _ _ rfl rfl hrun ?_; obtain ⟨A8, c8, rfl, _, _, _⟩ := own_rowof MmC_size hown9 (by rw [List.length_append]; rfl); have RE := Lib.hid (END.out W2 A7 c7 W4 M' W9 _ hb2 HKP4.out HMK4.out HREP4.out hown9 hgr); have e9 := RE.out.1.cell; have f9 := RE.out.1.frozen; clear hrun hown9 hgr)
              exact ⟨RE.out.2.1, RE.out.2.2.1, fun q' hq' => (List.mem_append.1 hq').elim (H1.out q') (fun e => by obtain rfl : q' = q := (by simpa using e); rw [HSS.out]; exact hs3), RE.out.2.2.2.1.1, RE.out.2.2.2.1.2.1, RE.out.2.2.2.1.2.2.1, RE.out.2.2.2.1.2.2.2.1, RE.out.2.2.2.1.2.2.2.2, RE.out.2.2.2.2.1, RE.out.2.2.2.2.2.1, Nat.le_trans hpw RE.out.2.2.2.2.2.2⟩
          · have gl : ¬ (fi : Int) < (L.length : Nat) := by omega
            have hmm1 : ∀ A7 c7, erm ((rs, { X with A := A7, n := xl, c := c7 }) : Mm) = erm (Nt.mm T (pre.map (Nt.un T P) ++ [(r, nq)]) L.length (r, nq)) := fun A7 c7 => by
              rw [hmmc, if_neg (fun h => hlt2 h.2)]
              unfold erm Nt.Nd.er
              rw [hXn]
            have APP := Lib.hid (fun W2 A7 c7 W4 (hb2 : Below W.heap.size W W2) (hkp : Keep (fun k => k = ad6 nq) ((W2.alloc (.cells #[.int .i64 X.kind, .int .i64 X.mode, .int .i64 X.uid, .int .i64 X.gid, .int .i64 X.mtime, .string X.link, .slice A7 xl c7, .int .i64 cn] 92)).alloc (.cells #[.string rs, .int .i64 X.kind, .int .i64 X.mode, .int .i64 X.uid, .int .i64 X.gid, .int .i64 X.mtime, .string X.link, .slice A7 xl c7] 102)) W4) =>
              have hx4 : KeepX NodeObj15 W (W4.alloc (.cells #[.string rs, .int .i64 X.kind, .int .i64 X.mode, .int .i64 X.uid, .int .i64 X.gid, .int .i64 X.mtime, .string X.link, .slice A7 xl c7] 102)) := ((KeepX.ofBelow (bthen (bthen hb2 (below_new W2 (.cells #[.int .i64 X.kind, .int .i64 X.mode, .int .i64 X.uid, .int .i64 X.gid, .int .i64 X.mtime, .string X.link, .slice A7 xl c7, .int .i64 cn] 92))) (below_new _ (.cells #[.string rs, .int .i64 X.kind, .int .i64 X.mode, .int .i64 X.uid, .int .i64 X.gid, .int .i64 X.mtime, .string X.link, .slice A7 xl c7] 102)))).trans (KXF.out _ _ (bthen (bthen hb2 (below_new W2 (.cells #[.int .i64 X.kind, .int .i64 X.mode, .int .i64 X.uid, .int .i64 X.gid, .int .i64 X.mtime, .string X.link, .slice A7 xl c7, .int .i64 cn] 92))) (below_new _ (.cells #[.string rs, .int .i64 X.kind, .int .i64 X.mode, .int .i64 X.uid, .int .i64 X.gid, .int .i64 X.mtime, .string X.link, .slice A7 xl c7] 102))) hkp)).trans (KeepX.ofBelow (below_new W4 (.cells #[.string rs, .int .i64 X.kind, .int .i64 X.mode, .int .i64 X.uid, .int .i64 X.gid, .int .i64 X.mtime, .string X.link, .slice A7 xl c7] 102)))
              app_mmN rfl (own_keptX HOWN.out hx4 fun _ _ => node_no (by decide)) (rowof_one (C := MmC) (z := 8) (x := ((rs, { X with A := A7, n := xl, c := c7 }) : Mm)) (BX.new W4 102 #[.string rs, .int .i64 X.kind, .int .i64 X.mode, .int .i64 X.uid, .int .i64 X.gid, .int .i64 X.mtime, .string X.link, .slice A7 xl c7])) 1 (by omega) (Nat.le_trans hpw hx4.size))
            have END := Lib.hid (fun W2 A7 c7 W4 M' W9 v8 (hb2 : Below W.heap.size W W2) (hvd : W2.ownsRow W.heap.size 5 1 (.slice A7 xl c7) xl (Lib.strCells (strOfNums X.xs))) (hkp : Keep (fun k => k = ad6 nq) ((W2.alloc (.cells #[.int .i64 X.kind, .int .i64 X.mode, .int .i64 X.uid, .int .i64 X.gid, .int .i64 X.mtime, .string X.link, .slice A7 xl c7, .int .i64 cn] 92)).alloc (.cells #[.string rs, .int .i64 X.kind, .int .i64 X.mode, .int .i64 X.uid, .int .i64 X.gid, .int .i64 X.mtime, .string X.link, .slice A7 xl c7] 102)) W4) (hmk4 : Nt.Marks T M' ((pre ++ [q]).map (Nt.un T P)) fl) (hrep4 : RepP (Grow (fun _ => False) (w5.alloc (.cells #[.slice none 0 0] 81)) w6) K W4 mtb M' ad6 mb6) (hown9 : World.ownsRow W9 w7.heap.size 102 8 v8 (L.length + 1) (rl MmC (L ++ [((rs, { X with A := A7, n := xl, c := c7 }) : Mm)]))) (hgr : (W4.alloc (.cells #[.string rs, .int .i64 X.kind, .int .i64 X.mode, .int .i64 X.uid, .int .i64 X.gid, .int .i64 X.mtime, .string X.link, .slice A7 xl c7] 102)).grownBy W9 (Value.slice A9 L.length c9).ownBlock) =>
              have hb3 : Below W.heap.size W ((W2.alloc (.cells #[.int .i64 X.kind, .int .i64 X.mode, .int .i64 X.uid, .int .i64 X.gid, .int .i64 X.mtime, .string X.link, .slice A7 xl c7, .int .i64 cn] 92)).alloc (.cells #[.string rs, .int .i64 X.kind, .int .i64 X.mode, .int .i64 X.uid, .int .i64 X.gid, .int .i64 X.mtime, .string X.link, .slice A7 xl c7] 102)) := (bthen (bthen hb2 (below_new W2 (.cells #[.int .i64 X.kind, .int .i64 X.mode, .int .i64 X.uid, .int .i64 X.gid, .int .i64 X.mtime, .string X.link, .slice A7 xl c7, .int .i64 cn] 92))) (below_new _ (.cells #[.string rs, .int .i64 X.kind, .int .i64 X.mode, .int .i64 X.uid, .int .i64 X.gid, .int .i64 X.mtime, .string X.link, .slice A7 xl c7] 102)))
              have hkx := KXF.out _ _ hb3 hkp
              have hn4 : Below W4.heap.size W4 (W4.alloc (.cells #[.string rs, .int .i64 X.kind, .int .i64 X.mode, .int .i64 X.uid, .int .i64 X.gid, .int .i64 X.mtime, .string X.link, .slice A7 xl c7] 102)) := below_new W4 (.cells #[.string rs, .int .i64 X.kind, .int .i64 X.mode, .int .i64 X.uid, .int .i64 X.gid, .int .i64 X.mtime, .string X.link, .slice A7 xl c7] 102)
              have hx4 : KeepX NodeObj15 W (W4.alloc (.cells #[.string rs, .int .i64 X.kind, .int .i64 X.mode, .int .i64 X.uid, .int .i64 X.gid, .int .i64 X.mtime, .string X.link, .slice A7 xl c7] 102)) := ((KeepX.ofBelow hb3).trans hkx).trans (KeepX.ofBelow hn4)
              have hx2 : KeepX NodeObj15 W2 (W4.alloc (.cells #[.string rs, .int .i64 X.kind, .int .i64 X.mode, .int .i64 X.uid, .int .i64 X.gid, .int .i64 X.mtime, .string X.link, .slice A7 xl c7] 102)) := ((KeepX.ofBelow (bthen (below_new W2 (.cells #[.int .i64 X.kind, .int .i64 X.mode, .int .i64 X.uid, .int .i64 X.gid, .int .i64 X.mtime, .string X.link, .slice A7 xl c7, .int .i64 cn] 92)) (below_new _ (.cells #[.string rs, .int .i64 X.kind, .int .i64 X.mode, .int .i64 X.uid, .int .i64 X.gid, .int .i64 X.mtime, .string X.link, .slice A7 xl c7] 102)))).trans hkx).trans (KeepX.ofBelow hn4)
              have hby := bytes15 hbyt hxl hvd
              round_end (m := ((rs, { X with A := A7, n := xl, c := c7 }) : Mm)) HBX.out HV.out HDTA.out HH8.out (hx4.weak node_nm) (own_keptX HOWN.out hx4 fun _ _ => node_no (by decide)) L7.out.size ((LOWK.out _ _ hb3 hkp).trans (hn4.mono (Nat.le_trans (Nat.le_trans HH8.out.size hb3.size) hkp.size)))
                (⟨hby.1.keptX hx2 (fun _ _ => node_no (by decide)), hby.2⟩ : MmD (W4.alloc (.cells #[.string rs, .int .i64 X.kind, .int .i64 X.mode, .int .i64 X.uid, .int .i64 X.gid, .int .i64 X.mtime, .string X.link, .slice A7 xl c7] 102)) ((rs, { X with A := A7, n := xl, c := c7 }) : Mm)) hmk4 (hrep4.later hn4) HGB.out ⟨by omega, by omega⟩ (by omega) (HM2 _ (hmm1 A7 c7)) hown9 hgr)
            clear hs k8 hinf hrest hmapm hmmc hmapq h8 hdat hown hrep hmk hGb h1 hSS hall hund hqpre hun hXX hxl hmap hBx hv h2 h3 h4 h5 h6 kfo hSl hfi hMq hadl hfi0 HM2 hmm1
            gi_wp2_with (first
            | (refine ⟨trivial, ?_⟩; gi_at_call 41; refine (CallsIn.inRound l (callsIn_wide.2 K8.out)).mono ?_; rintro e W2 ⟨vd, rfl, hvd, hb2⟩; obtain ⟨A7, c7, rfl⟩ := row_slice (hvd trivial); have ba := bthen hb2 (below_new W2 (.cells #[.int .i64 X.kind, .int .i64 X.mode, .int .i64 X.uid, .int .i64 X.gid, .int .i64 X.mtime, .string X.link, .slice A7 xl c7, .int .i64 cn] 92)); obtain ⟨a0, a1, a2, a3⟩ := BB.out _ ba; obtain ⟨b0, b1, b2, b3⟩ := BB.out _ (bthen ba (below_new (W2.alloc (.cells #[.int .i64 X.kind, .int .i64 X.mode, .int .i64 X.uid, .int .i64 X.gid, .int .i64 X.mtime, .string X.link, .slice A7 xl c7, .int .i64 cn] 92)) (.cells #[.string ⟨#[]⟩, .int .i64 X.kind, .int .i64 X.mode, .int .i64 X.uid, .int .i64 X.gid, .int .i64 X.mtime, .string X.link, .slice A7 xl c7] 102))); have bc := bthen ba (below_new (W2.alloc (.cells #[.int .i64 X.kind, .int .i64 X.mode, .int .i64 X.uid, .int .i64 X.gid, .int .i64 X.mtime, .string X.link, .slice A7 xl c7, .int .i64 cn] 92)) (.cells #[.string rs, .int .i64 X.kind, .int .i64 X.mode, .int .i64 X.uid, .int .i64 X.gid, .int .i64 X.mtime, .string X.link, .slice A7 xl c7] 102)); obtain ⟨c0, c1, c2, c3⟩ := BB.out _ bc; have HVD := Lib.hid (hvd trivial); have HBC := Lib.hid bc; clear hvd)
            | (refine ⟨trivial, ?_⟩; gi_at_call 85; refine (CallsIn.inRound l (callsIn_wide.2 (KR.out _))).mono ?_; rintro e w' ⟨rfl, rfl⟩)
            | (refine ⟨trivial, ?_⟩; gi_at_call 86; refine (CallsIn.inRound l (callsIn_wide.2 (KF.out _ (HREP.out.later HBC.out)))).mono ?_; rintro e W4 ⟨rfl, M', hmk4, hrep4, hkp4⟩; have HKX := Lib.hid (KXF.out _ _ HBC.out hkp4); obtain ⟨d0, d1, d2, d3⟩ := BC.out _ _ HBC.out HKX.out; have mb4 := MBF.out _ _ _ _ hb2 hkp4; have m0 := mb4.cell (j := 0) rfl; have m1 := mb4.cell (j := 1) rfl; have m2 := mb4.cell (j := 2) rfl; have m3 := mb4.cell (j := 3) rfl; have m4 := mb4.cell (j := 4) rfl; have m5 := mb4.cell (j := 5) rfl; have m6 := mb4.cell (j := 6) rfl; have m7 := mb4.cell (j := 7) rfl; have HM4 := Lib.hid mb4; have HMK4 := Lib.hid hmk4; have HREP4 := Lib.hid hrep4; have HKP4 := Lib.hid hkp4; clear hmk4 hrep4 hkp4 mb4)
            | (gi_at_builtin; obtain ⟨v8, W9, hrun, hown9, hgr, _⟩ := APP.out W2 A7 c7 W4 hb2 HKP4.out; refine append_in15 rfl _ _ 81 81 rfl _ _ rfl rfl hrun ?_; obtain ⟨A8, c8, rfl, _, _, _⟩ := own_rowof MmC_size hown9 (by rw [List.length_append]; rfl); have RE := Lib.hid (END.out W2 A7 c7 W4 M' W9 _ hb2 HVD.out HKP4.out HMK4.out HREP4.out hown9 hgr); have e9 := RE.out.1.cell; have f9 := RE.out.1.frozen; clear hrun hown9 hgr))
            exact ⟨RE.out.2.1, RE.out.2.2.1, fun q' hq' => (List.mem_append.1 hq').elim (H1.out q') (fun e => by obtain rfl : q' = q := (by simpa using e); rw [HSS.out]; exact hs3), RE.out.2.2.2.1.1, RE.out.2.2.2.1.2.1, RE.out.2.2.2.1.2.2.1, RE.out.2.2.2.1.2.2.2.1, RE.out.2.2.2.1.2.2.2.2, RE.out.2.2.2.2.1, RE.out.2.2.2.2.2.1, Nat.le_trans hpw RE.out.2.2.2.2.2.2⟩
        · have gc : ¬ (1 : Int) < cn := by omega
          have APP := Lib.hid (fun W2 A7 c7 (hb2 : Below W.heap.size W W2) => app_mmN (w := ((W2.alloc (.cells #[.int .i64 X.kind, .int .i64 X.mode, .int .i64 X.uid, .int .i64 X.gid, .int .i64 X.mtime, .string X.link, .slice A7 xl c7, .int .i64 cn] 92)).alloc (.cells #[.string rs, .int .i64 X.kind, .int .i64 X.mode, .int .i64 X.uid, .int .i64 X.gid, .int .i64 X.mtime, .string X.link, .slice A7 xl c7] 102)).alloc (.cells #[.string rs, .int .i64 X.kind, .int .i64 X.mode, .int .i64 X.uid, .int .i64 X.gid, .int .i64 X.mtime, .string X.link, .slice A7 xl c7] 102)) rfl (own_keep13 HOWN.out fun k hk => (bthen (bthen (bthen hb2 (below_new W2 (.cells #[.int .i64 X.kind, .int .i64 X.mode, .int .i64 X.uid, .int .i64 X.gid, .int .i64 X.mtime, .string X.link, .slice A7 xl c7, .int .i64 cn] 92))) (below_new _ (.cells #[.string rs, .int .i64 X.kind, .int .i64 X.mode, .int .i64 X.uid, .int .i64 X.gid, .int .i64 X.mtime, .string X.link, .slice A7 xl c7] 102))) (below_new _ (.cells #[.string rs, .int .i64 X.kind, .int .i64 X.mode, .int .i64 X.uid, .int .i64 X.gid, .int .i64 X.mtime, .string X.link, .slice A7 xl c7] 102))).block k (World.ownsRow.lt HOWN.out k hk).2) (rowof_one (C := MmC) (z := 8) (x := ((rs, { X with A := A7, n := xl, c := c7 }) : Mm)) (bx_new3 W2 (.cells #[.int .i64 X.kind, .int .i64 X.mode, .int .i64 X.uid, .int .i64 X.gid, .int .i64 X.mtime, .string X.link, .slice A7 xl c7, .int .i64 cn] 92) (.cells #[.string rs, .int .i64 X.kind, .int .i64 X.mode, .int .i64 X.uid, .int .i64 X.gid, .int .i64 X.mtime, .string X.link, .slice A7 xl c7] 102) 102 #[.string rs, .int .i64 X.kind, .int .i64 X.mode, .int .i64 X.uid, .int .i64 X.gid, .int .i64 X.mtime, .string X.link, .slice A7 xl c7])) 1 (by omega) (by have := hb2.size; simp; omega))
          have hmk1 : Nt.Marks T M ((pre ++ [q]).map (Nt.un T P)) fl := by rw [HMQ.out]; exact HMK.out.skip fun h => absurd h hc1
          have hmm1 : ∀ A7 c7, erm ((rs, { X with A := A7, n := xl, c := c7 }) : Mm) = erm (Nt.mm T (pre.map (Nt.un T P) ++ [(r, nq)]) (pre.map (Nt.un T P)).length (r, nq)) := fun A7 c7 => by
            rw [HMC.out, if_neg (fun h => hc1 h.1)]
            unfold erm Nt.Nd.er
            rw [hXn]
          have END := Lib.hid (fun W2 A7 c7 W9 v8 (hb2 : Below W.heap.size W W2) (hvd : W2.ownsRow W.heap.size 5 1 (.slice A7 xl c7) xl (Lib.strCells (strOfNums X.xs))) (hown9 : World.ownsRow W9 w7.heap.size 102 8 v8 (L.length + 1) (rl MmC (L ++ [((rs, { X with A := A7, n := xl, c := c7 }) : Mm)]))) (hgr : (((W2.alloc (.cells #[.int .i64 X.kind, .int .i64 X.mode, .int .i64 X.uid, .int .i64 X.gid, .int .i64 X.mtime, .string X.link, .slice A7 xl c7, .int .i64 cn] 92)).alloc (.cells #[.string rs, .int .i64 X.kind, .int .i64 X.mode, .int .i64 X.uid, .int .i64 X.gid, .int .i64 X.mtime, .string X.link, .slice A7 xl c7] 102)).alloc (.cells #[.string rs, .int .i64 X.kind, .int .i64 X.mode, .int .i64 X.uid, .int .i64 X.gid, .int .i64 X.mtime, .string X.link, .slice A7 xl c7] 102)).grownBy W9 (Value.slice A9 L.length c9).ownBlock) =>
            have hWD : Below W.heap.size W (((W2.alloc (.cells #[.int .i64 X.kind, .int .i64 X.mode, .int .i64 X.uid, .int .i64 X.gid, .int .i64 X.mtime, .string X.link, .slice A7 xl c7, .int .i64 cn] 92)).alloc (.cells #[.string rs, .int .i64 X.kind, .int .i64 X.mode, .int .i64 X.uid, .int .i64 X.gid, .int .i64 X.mtime, .string X.link, .slice A7 xl c7] 102)).alloc (.cells #[.string rs, .int .i64 X.kind, .int .i64 X.mode, .int .i64 X.uid, .int .i64 X.gid, .int .i64 X.mtime, .string X.link, .slice A7 xl c7] 102)) := (bthen (bthen (bthen hb2 (below_new W2 (.cells #[.int .i64 X.kind, .int .i64 X.mode, .int .i64 X.uid, .int .i64 X.gid, .int .i64 X.mtime, .string X.link, .slice A7 xl c7, .int .i64 cn] 92))) (below_new _ (.cells #[.string rs, .int .i64 X.kind, .int .i64 X.mode, .int .i64 X.uid, .int .i64 X.gid, .int .i64 X.mtime, .string X.link, .slice A7 xl c7] 102))) (below_new _ (.cells #[.string rs, .int .i64 X.kind, .int .i64 X.mode, .int .i64 X.uid, .int .i64 X.gid, .int .i64 X.mtime, .string X.link, .slice A7 xl c7] 102)))
            have hB2 : Below W2.heap.size W2 (((W2.alloc (.cells #[.int .i64 X.kind, .int .i64 X.mode, .int .i64 X.uid, .int .i64 X.gid, .int .i64 X.mtime, .string X.link, .slice A7 xl c7, .int .i64 cn] 92)).alloc (.cells #[.string rs, .int .i64 X.kind, .int .i64 X.mode, .int .i64 X.uid, .int .i64 X.gid, .int .i64 X.mtime, .string X.link, .slice A7 xl c7] 102)).alloc (.cells #[.string rs, .int .i64 X.kind, .int .i64 X.mode, .int .i64 X.uid, .int .i64 X.gid, .int .i64 X.mtime, .string X.link, .slice A7 xl c7] 102)) := (bthen (bthen (below_new W2 (.cells #[.int .i64 X.kind, .int .i64 X.mode, .int .i64 X.uid, .int .i64 X.gid, .int .i64 X.mtime, .string X.link, .slice A7 xl c7, .int .i64 cn] 92)) (below_new _ (.cells #[.string rs, .int .i64 X.kind, .int .i64 X.mode, .int .i64 X.uid, .int .i64 X.gid, .int .i64 X.mtime, .string X.link, .slice A7 xl c7] 102))) (below_new _ (.cells #[.string rs, .int .i64 X.kind, .int .i64 X.mode, .int .i64 X.uid, .int .i64 X.gid, .int .i64 X.mtime, .string X.link, .slice A7 xl c7] 102)))
            have hby := bytes15 hbyt hxl hvd
            round_end (m := ((rs, { X with A := A7, n := xl, c := c7 }) : Mm)) HBX.out HV.out HDTA.out HH8.out (KeepX.ofBelow hWD) (own_keep13 HOWN.out fun k hk => hWD.block k (World.ownsRow.lt HOWN.out k hk).2) L7.out.size (hWD.mono HH8.out.size)
              (⟨hby.1.below hB2, hby.2⟩ : MmD (((W2.alloc (.cells #[.int .i64 X.kind, .int .i64 X.mode, .int .i64 X.uid, .int .i64 X.gid, .int .i64 X.mtime, .string X.link, .slice A7 xl c7, .int .i64 cn] 92)).alloc (.cells #[.string rs, .int .i64 X.kind, .int .i64 X.mode, .int .i64 X.uid, .int .i64 X.gid, .int .i64 X.mtime, .string X.link, .slice A7 xl c7] 102)).alloc (.cells #[.string rs, .int .i64 X.kind, .int .i64 X.mode, .int .i64 X.uid, .int .i64 X.gid, .int .i64 X.mtime, .string X.link, .slice A7 xl c7] 102)) ((rs, { X with A := A7, n := xl, c := c7 }) : Mm)) hmk1 (HREP.out.later hWD) HGB.out ⟨by omega, by omega⟩ (by omega) (HM.out _ (hmm1 A7 c7)) hown9 hgr)
          clear hs hmm1 hmk1 k8 hinf hrest hmapm hmmc hmapq h8 hdat hown hrep hmk hGb h1 hSS hall hund hqpre hun hXX hxl hmap hBx hv h2 h3 h4 h5 h6
          gi_wp2_with (first
            | (refine ⟨trivial, ?_⟩; gi_at_call 41; refine (CallsIn.inRound l (callsIn_wide.2 K8.out)).mono ?_; rintro e W2 ⟨vd, rfl, hvd, hb2⟩; obtain ⟨A7, c7, rfl⟩ := row_slice (hvd trivial); have ba := bthen hb2 (below_new W2 (.cells #[.int .i64 X.kind, .int .i64 X.mode, .int .i64 X.uid, .int .i64 X.gid, .int .i64 X.mtime, .string X.link, .slice A7 xl c7, .int .i64 cn] 92)); obtain ⟨a0, a1, a2, a3⟩ := BB.out _ ba; obtain ⟨b0, b1, b2, b3⟩ := BB.out _ (bthen ba (below_new (W2.alloc (.cells #[.int .i64 X.kind, .int .i64 X.mode, .int .i64 X.uid, .int .i64 X.gid, .int .i64 X.mtime, .string X.link, .slice A7 xl c7, .int .i64 cn] 92)) (.cells #[.string ⟨#[]⟩, .int .i64 X.kind, .int .i64 X.mode, .int .i64 X.uid, .int .i64 X.gid, .int .i64 X.mtime, .string X.link, .slice A7 xl c7] 102))); have bc := bthen ba (below_new (W2.alloc (.cells #[.int .i64 X.kind, .int .i64 X.mode, .int .i64 X.uid, .int .i64 X.gid, .int .i64 X.mtime, .string X.link, .slice A7 xl c7, .int .i64 cn] 92)) (.cells #[.string rs, .int .i64 X.kind, .int .i64 X.mode, .int .i64 X.uid, .int .i64 X.gid, .int .i64 X.mtime, .string X.link, .slice A7 xl c7] 102)); obtain ⟨c0, c1, c2, c3⟩ := BB.out _ bc; have HVD := Lib.hid (hvd trivial); clear hvd)
            | (refine ⟨trivial, ?_⟩; gi_at_call 85; refine (CallsIn.inRound l (callsIn_wide.2 (KR.out _))).mono ?_; rintro e w' ⟨rfl, rfl⟩)
            | (gi_at_builtin; obtain ⟨v8, W9, hrun, hown9, hgr, _⟩ := APP.out W2 A7 c7 hb2; refine append_in15 rfl _ _ 81 81 rfl _ _ rfl rfl hrun ?_; obtain ⟨A8, c8, rfl, _, _, _⟩ := own_rowof MmC_size hown9 (by rw [List.length_append]; rfl); have RE := Lib.hid (END.out W2 A7 c7 W9 _ hb2 HVD.out hown9 hgr); have e9 := RE.out.1.cell; have f9 := RE.out.1.frozen; clear hrun hown9 hgr))
          exact ⟨RE.out.2.1, RE.out.2.2.1, fun q' hq' => (List.mem_append.1 hq').elim (H1.out q') (fun e => by obtain rfl : q' = q := (by simpa using e); rw [HSS.out]; exact hs3), RE.out.2.2.2.1.1, RE.out.2.2.2.1.2.1, RE.out.2.2.2.1.2.2.1, RE.out.2.2.2.1.2.2.2.1, RE.out.2.2.2.1.2.2.2.2, RE.out.2.2.2.2.1, RE.out.2.2.2.2.2.1, Nat.le_trans hpw RE.out.2.2.2.2.2.2⟩
    case done =>
      rintro D W hD ⟨h1, h2, h3, h4, h5, h6, h7, h8, h9⟩ hK
      have hno : Nt.longB T.paths P = false := by
        cases e : Nt.longB T.paths P with
        | false => rfl
        | true =>
          obtain ⟨q, hq, hl⟩ := (Nt.long_und hW hPm (by rw [hpt]; exact hp300) (m := 302) (by omega)).1 e
          have := h1 q hq
          omega
      have hund := Nt.und_un hW hPm (m := 302) (by omega) hno
      have hOE : Nt.ofE T p = 0 := by unfold Nt.ofE; rw [show Nt.lisE T p = lsE T p from rfl, hE0, if_neg (by simp), hPP, hno, if_neg (by decide)]
      have hOL : Nt.ofL T p = Nt.mms T (Nt.srt T.paths P) := by unfold Nt.ofL; rw [hOE, if_pos rfl, hPP]
      obtain ⟨v9, L, M, hv, hown, hdat, hmap, _, _⟩ := h7
      rw [hund, ← hOL] at hmap
      obtain ⟨A9, c9, rfl, hrow, hc1, hc2⟩ := own_rowof MmC_size hown rfl
      have HOWN := Lib.hid hown
      have HOE := Lib.hid hOE
      have HMAP := Lib.hid hmap
      have HROW := Lib.hid (⟨hrow, hdat⟩ : MRow W A9 L.length L)
      have cv := hv.cell
      have c4 := h4.cell
      have f4 := h4.frozen
      have c5 := h5.cell
      have f5 := h5.frozen
      clear hund hOL hmap hown hrow hdat hno hOE
      gi_wp2
      have k1 := KeepsOthers.setCell W ⟨w.heap.size + 1 + 1, 0, none⟩ (.slice A9 L.length c9)
      have k2 := KeepsOthers.setCell (W.setCell ⟨w.heap.size + 1 + 1, 0, none⟩ (.slice A9 L.length c9)) ⟨w.heap.size + 1 + 1 + 1, 0, none⟩ (.int .i64 0)
      have hK' := k2.same D _ (k1.same D _ hK rfl) rfl
      refine ⟨by simp, .inl ⟨_, _, rfl, run_takeDeferred hK', ?_⟩⟩
      have b2 := (h4.set (.slice A9 L.length c9)).other (B' := w.heap.size + 1 + 1 + 1) (by omega) (.int .i64 0)
      have b3 := (h5.other (B' := w.heap.size + 1 + 1) (by omega) (.slice A9 L.length c9)).set (.int .i64 0)
      have z0 := b2.kept (grownBy_putObj' _ D (.deferred none)) (fun e => by cases e; have := L7.out.size; omega)
      have z1 := b3.kept (grownBy_putObj' _ D (.deferred none)) (fun e => by cases e; have := L7.out.size; omega)
      have y0 := z0.cell
      have y1 := z1.cell
      have kx : KeepX EndObj W (((W.setCell ⟨w.heap.size + 1 + 1, 0, none⟩ (.slice A9 L.length c9)).setCell ⟨w.heap.size + 1 + 1 + 1, 0, none⟩ (.int .i64 0)).putObj D (.deferred none)) :=
        ((KeepX.setCell h4 (.inr ⟨_, _, _, rfl, .inl rfl⟩) _).trans (KeepX.setCell (h5.other (B' := w.heap.size + 1 + 1) (by omega) (.slice A9 L.length c9)) (.inr ⟨_, _, _, rfl, .inr rfl⟩) _)).trans (KeepX.putObj hK' (.inl rfl) _)
      refine ⟨.tuple #[.slice A9 L.length c9, .int .i64 0], ?_, A9, c9, L, by rw [HOE.out], HMAP.out, MRow.keptX HROW.out kx end_u8 end_mm, hc1, ⟨hc2, own_base15 (own_keptX15 HOWN.out kx end_mm) (by have := L7.out.size; omega)⟩, ?_⟩
      · simp [results, Tryz.f36, go_sem, y0, y1]
      · exact ((h8.setCell (p := ⟨w.heap.size + 1 + 1, 0, none⟩) (by simp; omega) _).setCell (p := ⟨w.heap.size + 1 + 1 + 1, 0, none⟩) (by simp; omega) _).trans (belowK_b (w := w) (Nat.le_refl _) _ D _ (.deferred none) (by have := L7.out.size; omega) hK' rfl rfl)
    case stop =>
      rintro D c pre W hD hpre ⟨rfl, hlong, h4, h5, h8⟩ hK
      obtain ⟨q, hq, hl⟩ := hlong
      have hlg : Nt.longB T.paths P = true := (Nt.long_und hW hPm (by rw [hpt]; exact hp300) (m := 302) (by omega)).2 ⟨q, hpre.subset hq, hl⟩
      have hOE : Nt.ofE T p = 8 := by unfold Nt.ofE; rw [show Nt.lisE T p = lsE T p from rfl, hE0, if_neg (by simp), hPP, hlg, if_pos rfl]
      have hOL : Nt.ofL T p = [] := by unfold Nt.ofL; rw [hOE, if_neg (by decide)]
      have HOE := Lib.hid hOE
      have HOL := Lib.hid hOL
      clear hOE hOL hlg
      gi_wp2
      refine ⟨by simp, .inl ⟨_, _, rfl, run_takeDeferred hK, ?_⟩⟩
      have z0 := h4.kept (grownBy_putObj' _ D (.deferred none)) (fun e => by cases e; have := L7.out.size; omega)
      have z1 := h5.kept (grownBy_putObj' _ D (.deferred none)) (fun e => by cases e; have := L7.out.size; omega)
      have y0 := z0.cell
      have y1 := z1.cell
      refine ⟨.tuple #[.slice none 0 0, .int .i64 8], ?_, none, 0, [], by rw [HOE.out]; rfl, by rw [HOL.out], ⟨RowOf.nil15, fun x hx => (by cases hx)⟩, Nat.le_refl _, ⟨Nat.zero_le _, World.ownsRow_nil _ _ _ _⟩, ?_⟩
      · simp [results, Tryz.f36, go_sem, y0, y1]
      · exact h8.trans (belowK_b (w := w) (Nat.le_refl _) _ D _ (.deferred none) (by have := L7.out.size; omega) hK rfl rfl)
theorem of_any (hW : WF T K) (hK : K ≤ 90000) (hT : Nt.Mok T) (hX : Nt.Bok T) (hR : RepP F K w tb T ad mb) (p : ByteArray) (hp : p.size ≤ 100000) :
    Calls Tryz.prog 36 #[.pointer (some ⟨tb, 0, none⟩), .string p] w fun e w' => ∃ A c L, e = .returned (.tuple #[.slice A L.length c, .int .i64 (Nt.ofE T p)]) ∧ L.map erm = (Nt.ofL T p).map erm ∧ MRow w' A L.length L ∧ L.length ≤ c ∧ c ≤ maxLen ∧ Below w.heap.size w w' :=
  (of_own hW hK hT hX hR p hp).mono fun _ _ ⟨A, c, L, h1, h2, h3, h4, h5, h6⟩ => ⟨A, c, L, h1, h2, h3, h4, h5.1, h6⟩
end
end Go.Proofs.YthgbncpiehcghaaGreatDoor
