/- WALKS OF LAYER 10, TENTH PART: Write. By gen_f10j.py. -/
import Derived.Test.YtjofdgjcbjdhbaaGreatDoorGf4
import Derived.Test.YtjofdgjcbjdhbaaGreatDoorGf1
import Derived.Test.YtjofdgjcbjdhbaaGreatDoorGe3
namespace Go.Proofs.YtjofdgjcbjdhbaaGreatDoor
open Go Go.RowKit
set_option maxHeartbeats 64000000
set_option maxRecDepth 100000
set_option linter.unusedVariables false
theorem Oth.app {a : Nat} {w w1 w2 : World} (h : Oth a w w1) (hb : Below w.heap.size w1 w2) : Oth a w w2 := ⟨hb.os.trans h.1, hb.tape.trans h.2.1, hb.output.trans h.2.2.1, Nat.le_trans h.2.2.2.1 hb.size, fun k hk hne => (hb.block k hk).trans (h.2.2.2.2 k hk hne)⟩
theorem PR.oth {w w' : World} {base a : Nat} {v : Value} {ps : List ByteArray} {cs : Array Value} (h : PR w base v ps) (hb : BX w a 69 cs) (ho : Oth a w w') : PR w' base v ps := by
  obtain ⟨its, h1, h2⟩ := h
  exact ⟨its, owns_keep h1 fun k hk => ho.2.2.2.2 k (owns_lt h1 hk) (owns_box h1 hb ne_mem_feed hk), h2⟩
theorem owns_src {w : World} {base size n c : Nat} {e : TypeId} {A : Option Addr} {xs : List Value} (h : w.ownsRow base e size (.slice A n c) n xs) (hn : 0 < n) : ∃ ad, A = some ad ∧ ∀ j u, xs[j]? = some u → w.cell? (ad.add j) = some u := by
  have hh := h
  rcases h.2 with ⟨h0, h1⟩ | ⟨g, cap, cur, h0, hb, hg, hnc, hcm, hcs, htake⟩
  · omega
  · cases h0
    refine ⟨_, rfl, fun j u hj => ?_⟩
    have hl := (List.getElem?_eq_some_iff.1 hj).1
    rw [Lib.add_plain, Nat.zero_add, World.ownsRow.cellAt hh j (by rw [← h.1]; exact hl)]
    exact hj
theorem c8_all (its : List It) : ∀ u ∈ its.flatMap c8, u.oneCell' = true := by
  intro u hu
  rw [List.mem_flatMap] at hu
  obtain ⟨x, _, h⟩ := hu
  exact c8_one x u h
theorem pr_append {w1 : World} {base base2 B a m2 c2 : Nat} {al nx v : Value} {s : Fd.S} {A2 : Option Addr} {m : List ByteArray} {k2 : List ByteArray} (h : PR w1 base v m) (h2 : PR w1 base2 (.slice A2 m2 c2) k2) (hm2 : k2.length = m2) (hlen : m.length + m2 ≤ 1000000) (hb : base ≤ w1.heap.size) (hf : Fs w1 B a al nx s) (hBb : B ≤ base) :
    ∃ v3 w2, (Builtin.append_ #[29, 29] 29 #[v, .slice A2 m2 c2]).run Tryz.prog w1 = .ok v3 w2 ∧ PR w2 base v3 (m ++ k2) ∧ Fs w2 B a al nx s ∧ Below base w1 w2 := by
  obtain ⟨i0, hi, hz0, hz1, hz2⟩ := info_parts info_mem
  obtain ⟨its, i1, i2⟩ := h
  obtain ⟨its2, j1, j2⟩ := h2
  have hl1 : its.length = m.length := by rw [← i2, List.length_map]
  have hl2 : its2.length = m2 := by rw [← hm2, ← j2, List.length_map]
  rw [hl2] at j1
  obtain ⟨v3, w3, hrun, hown, hgrow, _⟩ := run_append_rows (P := Tryz.prog) base 29 29 44 i0 (.agg #[.string ⟨#[]⟩, .int .i64 0, .int .i64 0, .int .i64 0, .int .i64 0, .int .i64 0, .string ⟨#[]⟩, .slice none 0 0]) 8 96 Tryz.underlying29 hi hz0 hz1 hz2 rfl (by decide) v its.length _ i1 A2 m2 c2 (its2.flatMap c8) (by rw [Go.Proofs.YtjofdgjcbjdhbaaGreatDoor.flat_len c8_len, hl2]) (fun hn => owns_src j1 hn) (c8_all its2) (by unfold maxLen; omega) (by omega) hb
  refine ⟨v3, w3, hrun, ⟨its ++ its2, ?_, by rw [List.map_append, i2, j2]⟩, ?_, below_app6 (Below.refl base w1) hb i1 hgrow⟩
  · rw [List.length_append, List.flatMap_append, hl2]
    exact hown
  · have hne : v.ownBlock ≠ some a := fun h => owns_box i1 hf.box ne_mem_feed h rfl
    exact { box := (hgrow.block a hf.box.lt hne.symm).trans hf.box, ba := hf.ba, len := hf.len, byt := hf.byt, hal := owns_other hf.hal i1 (by decide) hgrow, hnx := owns_other hf.hnx i1 (by decide) hgrow }
/-- Where a Write stands. -/
def Wl (w wq : World) (B a N n : Nat) (s0 : Fd.S) (xs : List Int) (v : Value) (A1 : Option Addr) (n1 c1 : Nat) : Prop :=
  ∃ al nx s1 ys m, Fs wq B a al nx s1 ∧ RB wq B A1 n1 ys ∧ Byt ys ∧ n1 ≤ c1 ∧ c1 ≤ maxLen ∧ Fd.Ok N s1 ∧ s1.fr + s1.has + n1 ≤ s1.at_ ∧ s1.st = 0 ∧ s1.has < s1.nd ∧ PR wq w.heap.size v m ∧ m.length + n1 ≤ n ∧ Oth a w wq ∧ (∀ s' m' E, Fd.Wr s1 ys s' m' E → Fd.Wr s0 xs s' (m ++ m') E)
/-- What an end of it leaves. -/
def FinOk (w w' : World) (B a : Nat) (s0 : Fd.S) (xs : List Int) (v : Value) (E : Int) : Prop := ∃ s' m, Fd.Wr s0 xs s' m E ∧ PR w' w.heap.size v m ∧ (∃ al' nx', Fs w' B a al' nx' s') ∧ Oth a w w'
/-- What a Write comes to. -/
def Wrote (w w' : World) (e : Ending) (B a : Nat) (s0 : Fd.S) (xs : List Int) : Prop := ∃ v E, e = .returned (.tuple #[v, .int .i64 E]) ∧ FinOk w w' B a s0 xs v E
theorem scan_told (s : Fd.S) : (Fd.scan s).2.1.length ≤ 1 := by
  unfold Fd.scan
  split
  · split
    · exact Nat.zero_le _
    · unfold Fd.body
      split
      · exact Nat.zero_le _
      · split
        · exact Nat.zero_le _
        · split
          · exact Nat.zero_le _
          · unfold Fd.tellS
            split
            · split
              · exact Nat.zero_le _
              · exact Nat.le_refl _
            · exact Nat.zero_le _
  · exact Nat.zero_le _
theorem PR.shape {w : World} {base : Nat} {v : Value} {ps : List ByteArray} (h : PR w base v ps) : ∃ A n c, v = .slice A n c := by
  obtain ⟨A, c, rfl⟩ := h.slice
  exact ⟨_, _, _, rfl⟩
def PassD (w wq : World) (B a : Nat) (s0 : Fd.S) (xs : List Int) (v : Value) (n1 : Nat) : Prop := wq.cell? ⟨a, 5, none⟩ = some (.bool true) ∧ 0 < n1 ∧ Calls Tryz.prog 37 #[.pointer (some ⟨a, 0, none⟩), .int .i64 3] wq fun e w' => e = .returned (.int .i64 3) ∧ FinOk w w' B a s0 xs v 3
def PassL (w wq : World) (B a : Nat) (s0 : Fd.S) (xs : List Int) (v : Value) (A1 : Option Addr) (n1 c1 : Nat) : Prop := ∃ b, wq.cell? ⟨a, 5, none⟩ = some (.bool b) ∧ (b = false ∨ ¬ 0 < n1) ∧ Calls Tryz.prog 38 #[.pointer (some ⟨a, 7, none⟩), .slice A1 n1 c1] wq fun e w' => ∃ A2 n2 c2, e = .returned (.slice A2 n2 c2) ∧ Calls Tryz.prog 39 #[.pointer (some ⟨a, 7, none⟩)] w' fun e w2 => e = .returned (.bool true) ∧ FinOk w w2 B a s0 xs v 0
def PassG (w wq : World) (B a N n : Nat) (s0 : Fd.S) (xs : List Int) (v : Value) (A1 : Option Addr) (n1 c1 : Nat) : Prop := ∃ b, wq.cell? ⟨a, 5, none⟩ = some (.bool b) ∧ (b = false ∨ ¬ 0 < n1) ∧ 0 < n1 ∧ Calls Tryz.prog 38 #[.pointer (some ⟨a, 7, none⟩), .slice A1 n1 c1] wq fun e w' => ∃ A2 n2 c2, e = .returned (.slice A2 n2 c2) ∧ n2 < n1 ∧ Calls Tryz.prog 39 #[.pointer (some ⟨a, 7, none⟩)] w' fun e w2 => e = .returned (.bool false) ∧ Calls Tryz.prog 40 #[.pointer (some ⟨a, 0, none⟩)] w2 fun e w3 => ∃ A7 m7 c7 v8 w8, e = .returned (.tuple #[.slice A7 m7 c7, .int .i64 0]) ∧ (Builtin.append_ #[29, 29] 29 #[v, .slice A7 m7 c7]).run Tryz.prog w3 = .ok v8 w8 ∧ Wl w w8 B a N n s0 xs v8 A2 n2 c2
def PassE (w wq : World) (B a : Nat) (s0 : Fd.S) (xs : List Int) (v : Value) (A1 : Option Addr) (n1 c1 : Nat) : Prop := ∃ b E9 E8, E9 ≠ 0 ∧ wq.cell? ⟨a, 5, none⟩ = some (.bool b) ∧ (b = false ∨ ¬ 0 < n1) ∧ Calls Tryz.prog 38 #[.pointer (some ⟨a, 7, none⟩), .slice A1 n1 c1] wq fun e w' => ∃ A2 n2 c2, e = .returned (.slice A2 n2 c2) ∧ Calls Tryz.prog 39 #[.pointer (some ⟨a, 7, none⟩)] w' fun e w2 => e = .returned (.bool false) ∧ Calls Tryz.prog 40 #[.pointer (some ⟨a, 0, none⟩)] w2 fun e w3 => ∃ A7 m7 c7 A8 m8 c8 w8, e = .returned (.tuple #[.slice A7 m7 c7, .int .i64 E9]) ∧ (Builtin.append_ #[29, 29] 29 #[v, .slice A7 m7 c7]).run Tryz.prog w3 = .ok (.slice A8 m8 c8) w8 ∧ Calls Tryz.prog 37 #[.pointer (some ⟨a, 0, none⟩), .int .i64 E9] w8 fun e w9 => e = .returned (.int .i64 E8) ∧ FinOk w w9 B a s0 xs (.slice A8 m8 c8) E8
theorem wl_pass {w wq : World} {B a N n : Nat} {s0 : Fd.S} {xs : List Int} {v : Value} {A1 : Option Addr} {n1 c1 : Nat} (hw0 : Wl w wq B a N n s0 xs v A1 n1 c1) (hB : B ≤ w.heap.size) (tb : ∀ W, Below B w W → Tab W) (hN : N ≤ 100000) (hn : n ≤ 50000) :
    (∃ A m c, v = .slice A m c) ∧ (PassD w wq B a s0 xs v n1 ∨ PassL w wq B a s0 xs v A1 n1 c1 ∨ PassG w wq B a N n s0 xs v A1 n1 c1 ∨ PassE w wq B a s0 xs v A1 n1 c1) := by
  obtain ⟨al, nx, s1, ys, m, hf, hr, hy, hc1, hc2, hok, hfa, hst, hlt, hp, hm, hb, hwr⟩ := hw0
  have hyl := hr.1
  have hsz := hb.size10
  have c5 := hf.lo.2.2.2.2.2.1
  have hn2 : s1.nd ≤ 4608 := hok.nn.2
  refine ⟨hp.shape, ?_⟩
  by_cases hdn : s1.dn = true ∧ 0 < n1
  · have hstp : Fd.stp s1 ys = .fin (Fd.halt s1 3) [] 3 := by unfold Fd.stp; rw [if_pos ⟨hdn.1, by omega⟩]
    refine .inl ⟨by rw [c5, hdn.1], hdn.2, (halt_any10 hf 3 (by decide)).mono fun e w' ⟨h1, h2, h3⟩ => ⟨h1, _, _, hwr _ _ _ (Fd.Wr.fin hstp), ?_, ⟨_, _, h2⟩, hb.trans h3⟩⟩
    rw [List.append_nil]
    exact hp.oth hf.box h3
  · have hstp : Fd.stp s1 ys = if (Fd.take s1 ys).has < (Fd.take s1 ys).nd then .fin (Fd.take s1 ys) [] 0 else if (Fd.scan (Fd.take s1 ys)).2.2 = 0 then .go (Fd.scan (Fd.take s1 ys)).1 (ys.drop (Fd.tk s1 ys)) (Fd.scan (Fd.take s1 ys)).2.1 else .fin (Fd.halt (Fd.scan (Fd.take s1 ys)).1 (Fd.scan (Fd.take s1 ys)).2.2) (Fd.scan (Fd.take s1 ys)).2.1 (Fd.ans (Fd.scan (Fd.take s1 ys)).2.2) := by unfold Fd.stp; rw [if_neg (by rw [hyl]; exact hdn)]
    have hdd : s1.dn = false ∨ ¬ 0 < n1 := by
      cases h : s1.dn with
      | false => exact .inl rfl
      | true => exact .inr fun h9 => hdn ⟨h, h9⟩
    obtain ⟨t1, t2⟩ := Fd.ok_take hok hy (by rw [hyl]; exact hfa)
    have tak := take_any10 hf (Nat.le_trans hB hsz) hlt hn2 A1 n1 c1 ys hr hy hc1 hc2 (by omega)
    have htk : Fd.tk s1 ys ≤ n1 := by rw [← hyl]; exact Nat.min_le_right _ _
    have hrl : (ys.drop (Fd.tk s1 ys)).length = n1 - Fd.tk s1 ys := by rw [List.length_drop, hyl]
    rw [hrl] at t2
    have lac : ∀ w', Fs w' B a al nx (Fd.take s1 ys) → Calls Tryz.prog 39 #[.pointer (some ⟨a, 7, none⟩)] w' fun e w2 => e = .returned (.bool (decide ((Fd.take s1 ys).has < (Fd.take s1 ys).nd))) ∧ Below w'.heap.size w' w2 := fun w' h => lacks_any10 h.top.1 h.top.2.1
    by_cases hl : (Fd.take s1 ys).has < (Fd.take s1 ys).nd
    · rw [if_pos hl] at hstp
      refine .inr (.inl ⟨_, c5, hdd, tak.mono fun e w' ⟨A2, h1, h2, h3, h4⟩ => ⟨A2, _, _, h1, (lac w' h3).mono fun e w2 ⟨g1, g2⟩ => ⟨by rw [g1, decide_eq_true hl], _, _, hwr _ _ _ (Fd.Wr.fin hstp), ?_, ⟨_, _, h3.below g2⟩, ?_⟩⟩⟩)
      · rw [List.append_nil]
        exact (hp.oth hf.box h4).oth h3.box (Oth.ofBelow g2)
      · exact (hb.trans h4).trans (Oth.ofBelow g2)
    · rw [if_neg hl] at hstp
      have hw : (Fd.take s1 ys).has = (Fd.take s1 ys).nd := by have := t1.hh; omega
      have hkp : 0 < Fd.tk s1 ys := by
        have h1 : (Fd.take s1 ys).has = s1.has + Fd.tk s1 ys := rfl
        have h2 : (Fd.take s1 ys).nd = s1.nd := rfl
        omega
      have hto := scan_told (Fd.take s1 ys)
      have hsc := Fd.ok_scan t1 hw _ t2
      have hss := (Fd.scan_st (Fd.take s1 ys)).trans hst
      have hsl := Fd.scan_lt (s := Fd.take s1 ys)
      have hyd := hy.drop (Fd.tk s1 ys)
      have mid : ∀ w' w2 A2, RB w' B A2 (n1 - Fd.tk s1 ys) (ys.drop (Fd.tk s1 ys)) → Fs w' B a al nx (Fd.take s1 ys) → Oth a wq w' → Below w'.heap.size w' w2 → Calls Tryz.prog 40 #[.pointer (some ⟨a, 0, none⟩)] w2 fun e w3 => ∃ A7 m7 c7 v8 w8, e = .returned (.tuple #[.slice A7 m7 c7, .int .i64 (Fd.scan (Fd.take s1 ys)).2.2]) ∧ (Builtin.append_ #[29, 29] 29 #[v, .slice A7 m7 c7]).run Tryz.prog w3 = .ok v8 w8 ∧ PR w8 w.heap.size v8 (m ++ (Fd.scan (Fd.take s1 ys)).2.1) ∧ RB w8 B A2 (n1 - Fd.tk s1 ys) (ys.drop (Fd.tk s1 ys)) ∧ Oth a w w8 ∧ ∃ al8 nx8, Fs w8 B a al8 nx8 (Fd.scan (Fd.take s1 ys)).1 := fun w' w2 A2 h2 h3 h4 g2 => by
        have b1 := hb.trans h4
        have b2' : Below B w' w2 := g2.mono (Nat.le_trans hB b1.size10)
        have b2 := b1.trans (Oth.ofBelow g2)
        have f2 := h3.below g2
        refine (fscan_any10 f2 (Nat.le_trans hB b2.size10) (fun W2 h9 => tb W2 ((b2.low hB f2.ba).trans h9)) t1 hN hw).mono fun e w3 ⟨v7, k1, k2, ⟨al7, nx7, k3⟩, k4⟩ => ?_
        obtain ⟨A7, c7, rfl⟩ := k2.slice
        have b3' := k4.low (Nat.le_trans hB b2.size10) f2.ba
        have b3 := b2.trans k4
        have p3 := ((hp.oth hf.box h4).oth h3.box (Oth.ofBelow g2)).oth f2.box k4
        obtain ⟨v8, w8, q1, q2, q3, q4⟩ := pr_append p3 k2 rfl (by omega) b3.size10 k3 hB
        exact ⟨A7, _, c7, v8, w8, k1, q1, q2, ((h2.below b2').below b3').below (q4.mono hB), b3.app q4, _, _, q3⟩
      by_cases hE : (Fd.scan (Fd.take s1 ys)).2.2 = 0
      · rw [if_pos hE] at hstp
        rw [hE] at mid
        refine .inr (.inr (.inl ⟨_, c5, hdd, by omega, tak.mono fun e w' ⟨A2, h1, h2, h3, h4⟩ => ⟨A2, _, _, h1, by omega, (lac w' h3).mono fun e w2 ⟨g1, g2⟩ => ⟨by rw [g1, decide_eq_false hl], (mid w' w2 A2 h2 h3 h4 g2).mono fun e w3 ⟨A7, m7, c7, v8, w8, k1, k2, k3, k4, k5, al8, nx8, k6⟩ => ⟨A7, m7, c7, v8, w8, k1, k2, al8, nx8, _, _, _, k6, k4, hyd, by omega, by omega, hsc.1, hsc.2 hE, hss, hsl hE, k3, ?_, k5, ?_⟩⟩⟩⟩))
        · rw [List.length_append]; omega
        · intro s' m' E h
          rw [List.append_assoc]
          exact hwr _ _ _ (Fd.Wr.go hstp h)
      · rw [if_neg hE] at hstp
        refine .inr (.inr (.inr ⟨_, (Fd.scan (Fd.take s1 ys)).2.2, Fd.ans (Fd.scan (Fd.take s1 ys)).2.2, hE, c5, hdd, tak.mono fun e w' ⟨A2, h1, h2, h3, h4⟩ => ⟨A2, _, _, h1, (lac w' h3).mono fun e w2 ⟨g1, g2⟩ => ⟨by rw [g1, decide_eq_false hl], (mid w' w2 A2 h2 h3 h4 g2).mono fun e w3 ⟨A7, m7, c7, v8, w8, k1, k2, k3, k4, k5, al8, nx8, k6⟩ => ?_⟩⟩⟩))
        obtain ⟨A8, m8, c8, rfl⟩ := k3.shape
        exact ⟨A7, m7, c7, A8, m8, c8, w8, k1, k2, (halt_any10 k6 _ hE).mono fun e w9 ⟨j1, j2, j3⟩ => ⟨j1, _, _, hwr _ _ _ (Fd.Wr.fin hstp), k3.oth k6.box j3, ⟨_, _, j2⟩, k5.trans j3⟩⟩
def fOf (T : Array Value) (i : Nat) : Value := T.getD i undef
/-- At the label. -/
def JW (w : World) (B a N n : Nat) (s0 : Fd.S) (xs : List Int) (a' : Act) (w' : World) : Prop := ∃ (A1 : Option Addr) (n1 c1 : Nat) (v : Value) (f : Nat → Value), a' = { tmps := #[.pointer (some ⟨a, 0, none⟩), .slice A1 n1 c1, f 2, f 3, .slice none 0 0, .int .i64 0, v, f 7, f 8, f 9, f 10, f 11, f 12, f 13, f 14, f 15, f 16, f 17, f 18, f 19, f 20, f 21, f 22, f 23, f 24, f 25, f 26, f 27, f 28, f 29, f 30, f 31, f 32, f 33, f 34, f 35, f 36, f 37, f 38, f 39, f 40, f 41, f 42, f 43, f 44, f 45, f 46, f 47, f 48, f 49, f 50, f 51, f 52, f 53, f 54, f 55, f 56, f 57, f 58, f 59, f 60, f 61, f 62, f 63, f 64, f 65, f 66, f 67, f 68, f 69], defers := [] } ∧ Hid (Wl w w' B a N n s0 xs v A1 n1 c1)
theorem jw_intro {w : World} {B a N n : Nat} {s0 : Fd.S} {xs : List Int} {a' : Act} {w' : World} {A1 : Option Addr} {n1 c1 : Nat} {v : Value} (h : a'.defers = []) (ht : a'.tmps = #[.pointer (some ⟨a, 0, none⟩), .slice A1 n1 c1, (fOf a'.tmps) 2, (fOf a'.tmps) 3, .slice none 0 0, .int .i64 0, v, (fOf a'.tmps) 7, (fOf a'.tmps) 8, (fOf a'.tmps) 9, (fOf a'.tmps) 10, (fOf a'.tmps) 11, (fOf a'.tmps) 12, (fOf a'.tmps) 13, (fOf a'.tmps) 14, (fOf a'.tmps) 15, (fOf a'.tmps) 16, (fOf a'.tmps) 17, (fOf a'.tmps) 18, (fOf a'.tmps) 19, (fOf a'.tmps) 20, (fOf a'.tmps) 21, (fOf a'.tmps) 22, (fOf a'.tmps) 23, (fOf a'.tmps) 24, (fOf a'.tmps) 25, (fOf a'.tmps) 26, (fOf a'.tmps) 27, (fOf a'.tmps) 28, (fOf a'.tmps) 29, (fOf a'.tmps) 30, (fOf a'.tmps) 31, (fOf a'.tmps) 32, (fOf a'.tmps) 33, (fOf a'.tmps) 34, (fOf a'.tmps) 35, (fOf a'.tmps) 36, (fOf a'.tmps) 37, (fOf a'.tmps) 38, (fOf a'.tmps) 39, (fOf a'.tmps) 40, (fOf a'.tmps) 41, (fOf a'.tmps) 42, (fOf a'.tmps) 43, (fOf a'.tmps) 44, (fOf a'.tmps) 45, (fOf a'.tmps) 46, (fOf a'.tmps) 47, (fOf a'.tmps) 48, (fOf a'.tmps) 49, (fOf a'.tmps) 50, (fOf a'.tmps) 51, (fOf a'.tmps) 52, (fOf a'.tmps) 53, (fOf a'.tmps) 54, (fOf a'.tmps) 55, (fOf a'.tmps) 56, (fOf a'.tmps) 57, (fOf a'.tmps) 58, (fOf a'.tmps) 59, (fOf a'.tmps) 60, (fOf a'.tmps) 61, (fOf a'.tmps) 62, (fOf a'.tmps) 63, (fOf a'.tmps) 64, (fOf a'.tmps) 65, (fOf a'.tmps) 66, (fOf a'.tmps) 67, (fOf a'.tmps) 68, (fOf a'.tmps) 69]) (hw : Wl w w' B a N n s0 xs v A1 n1 c1) : JW w B a N n s0 xs a' w' :=
  ⟨A1, n1, c1, v, fOf a'.tmps, by obtain ⟨T, D⟩ := a'; dsimp only at h ht ⊢; rw [h, ← ht], hw⟩
section
variable {w : World} {B a : Nat} {al nx : Value} {s : Fd.S}
theorem write_on {N : Nat} (h : Fs w B a al nx s) (hB : B ≤ w.heap.size) (tb : ∀ W, Below B w W → Tab W) (hst : Fd.Wst N s) (h0 : s.st = 0) (A : Option Addr) (n c : Nat) (xs : List Int) (hd : RB w B A n xs) (hx : Byt xs) (hc : n ≤ c) (hc2 : c ≤ maxLen) (hN : N + n ≤ 50000) :
    Calls Tryz.prog 22 #[.pointer (some ⟨a, 0, none⟩), .slice A n c] w fun e w' => Wrote w w' e B a (Fd.come s n) xs := by
  have HM := Lib.hid (made_cell h.lo.1)
  have HBR := Lib.hid (broken_any10 h.lo.2.2.2.2.2.2)
  rw [show (decide (s.st ≠ 0) && decide (s.st ≠ 4)) = false by rw [h0]; rfl] at HBR
  have k6 := h.lo.2.2.2.2.2.2
  rw [h0] at k6
  have k1 := h.lo.2.1
  have f1 := h.box.free 1
  have TB := Lib.hid tb
  have HBZ := Lib.hid hB
  have HBA := Lib.hid h.ba
  obtain ⟨ok, _, w2⟩ := hst
  have hok2 := Fd.ok_come (n := n) ok
  have hcome : Fs (w.setCell ⟨a, 1, none⟩ (.int .i64 ((s.at_ + n : Nat) : Int))) B a al nx (Fd.come s n) := h.set_lo 1 _ (Fd.come s n) (by decide) rfl rfl rfl rfl rfl
  have hbc : Below B w (w.setCell ⟨a, 1, none⟩ (.int .i64 ((s.at_ + n : Nat) : Int))) := (Below.refl B w).setCell (p := ⟨a, 1, none⟩) h.ba _
  have hfa := ok.fa
  have han := ok.an
  have HW0 := Lib.hid (show Wl w (w.setCell ⟨a, 1, none⟩ (.int .i64 ((s.at_ + n : Nat) : Int))) B a (N + n) n (Fd.come s n) xs (.slice none 0 0) A n c from ⟨al, nx, Fd.come s n, xs, [], hcome, hd.below hbc, hx, hc, hc2, hok2, by show s.fr + s.has + n ≤ s.at_ + n; omega, h0, w2 h0, PR.nil _ _, by simp, (Oth.refl a w).setCell 1 _, fun s' m' E h => h⟩)
  have HNN := Lib.hid (show N + n ≤ 100000 by omega)
  have hn9 : n ≤ 50000 := by omega
  have hs1 : IntKind.i64.wrap ((s.at_ : Int) + (n : Int)) = (s.at_ : Int) + (n : Int) := by go_arith
  have hs2 : (s.at_ : Int) + (n : Int) ≤ 100000 := by omega
  clear h tb hd hx hcome hbc ok w2 hok2 hfa h0 hc hc2 han
  obtain ⟨N, hNN⟩ : ∃ M, M = N + n := ⟨_, rfl⟩
  rw [← hNN] at HW0 HNN
  clear hNN hN
  generalize hs0 : Fd.come s n = s0 at *
  clear hs0
  go_enter Tryz.func22, Tryz.ntmps22
  go_wp2_with (first
    | (go_at_call 35; (with_reducible refine (HM.out).mono ?_); rintro e w2 ⟨rfl, rfl⟩)
    | (go_at_call 36; (with_reducible refine (HBR.out).mono ?_); rintro e w2 ⟨rfl, rfl⟩))
  refine wp_scope_jumps 0 (JW w B a N n s0 xs) (fun a' _ => lenV (a'.tmps.getD 1 undef)) rfl ?_ ?_
  · go_upto_region 9 with (first
      | (go_at_call 35; (with_reducible refine (HM.out).mono ?_); rintro e w2 ⟨rfl, rfl⟩)
      | (go_at_call 36; (with_reducible refine (HBR.out).mono ?_); rintro e w2 ⟨rfl, rfl⟩))
    go_step3
    obtain ⟨wq, hwq⟩ : ∃ wq, wq = w.setCell ⟨a, 1, none⟩ (.int .i64 ((s.at_ + n : Nat) : Int)) := ⟨_, rfl⟩
    rw [← hwq] at HW0
    rw [show ((s.at_ : Int) + (n : Int)) = ((s.at_ + n : Nat) : Int) from rfl, ← hwq]
    clear hwq k1 k6 f1 HM HBR hs1 hs2
    have HW := HW0
    clear HW0
    have hps := wl_pass HW.out HBZ.out TB.out HNN.out hn9
    obtain ⟨⟨Av, mv, cv, hv⟩, hps⟩ := hps
    clear hv
    rcases hps with hps | hps | hps | hps
    · obtain ⟨c5, hn1, hc⟩ := hps
      have HC := Lib.hid hc
      have hn2 : (0 : Int) < n := by omega
      clear hc HW
      go_wp2_with (go_at_call 37; (with_reducible refine (HC.out).mono ?_); rintro e w5 ⟨rfl, hfo⟩; have HFO := Lib.hid hfo; clear hfo)
      try simp only [Exit.jump]
      try simp only [Exit.noGoto_ret]
      go_ret2
      exact ⟨_, _, rfl, HFO.out⟩
    · obtain ⟨b, c5, hbn, hc⟩ := hps
      have HC := Lib.hid hc
      clear hc HW
      have hbb : b = false ∨ (b = true ∧ ¬ (0 : Int) < n) := by
        cases b
        · exact .inl rfl
        · exact .inr ⟨rfl, by rcases hbn with h | h; cases h; omega⟩
      clear hbn
      rcases hbb with rfl | ⟨rfl, hnn⟩
      all_goals
        go_wp2_with (first
          | (go_at_call 38; (with_reducible refine (HC.out).mono ?_); rintro e w5 ⟨A2, n2, c2, rfl, hc2⟩; have HC2 := Lib.hid hc2; clear hc2)
          | (go_at_call 39; (with_reducible refine (HC2.out).mono ?_); rintro e w6 ⟨rfl, hfo⟩; have HFO := Lib.hid hfo; clear hfo))
        try simp only [Exit.jump]
        try simp only [Exit.noGoto_ret]
        go_ret2
        exact ⟨_, _, rfl, HFO.out⟩
    · obtain ⟨b, c5, hbn, hn0, hc⟩ := hps
      have HC := Lib.hid hc
      clear hc HW
      obtain rfl : b = false := by
        rcases hbn with h | h
        · exact h
        · omega
      clear hbn
      all_goals
        go_wp2_with (first
          | (go_at_call 38; (with_reducible refine (HC.out).mono ?_); rintro e w5 ⟨A2, n2, c2, rfl, hlt2, hc2⟩; have HC2 := Lib.hid hc2; clear hc2)
          | (go_at_call 39; (with_reducible refine (HC2.out).mono ?_); rintro e w6 ⟨rfl, hc3⟩; have HC3 := Lib.hid hc3; clear hc3)
          | (go_at_call 40; (with_reducible refine (HC3.out).mono ?_); rintro e w7 ⟨A7, m7, c7, v8, w8, rfl, hrun, hwl⟩; have HRU := Lib.hid hrun; have HWL := Lib.hid hwl; clear hrun hwl)
          | (at_builtin; refine Lib.wpList_append_run _ rfl _ _ 29 29 rfl _ _ rfl rfl _ _ HRU.out ?_))
        try go_step3
        try simp only [Exit.jump]
        first
          | exact ⟨rfl, jw_intro rfl rfl HWL.out⟩
          | exact ⟨trivial, jw_intro rfl rfl HWL.out⟩
          | trace_state
    · obtain ⟨b, E9, E8, hE, c5, hbn, hc⟩ := hps
      have HC := Lib.hid hc
      have hE' : (E9 != 0) = true := by simpa using hE
      clear hc HW hE
      have hbb : b = false ∨ (b = true ∧ ¬ (0 : Int) < n) := by
        cases b
        · exact .inl rfl
        · exact .inr ⟨rfl, by rcases hbn with h | h; cases h; omega⟩
      clear hbn
      rcases hbb with rfl | ⟨rfl, hnn⟩
      all_goals
        go_wp2_with (first
          | (go_at_call 38; (with_reducible refine (HC.out).mono ?_); rintro e w5 ⟨A2, n2, c2, rfl, hc2⟩; have HC2 := Lib.hid hc2; clear hc2)
          | (go_at_call 39; (with_reducible refine (HC2.out).mono ?_); rintro e w6 ⟨rfl, hc3⟩; have HC3 := Lib.hid hc3; clear hc3)
          | (go_at_call 40; (with_reducible refine (HC3.out).mono ?_); rintro e w7 ⟨A7, m7, c7, A8, m8, c8, w8, rfl, hrun, hc4⟩; have HRU := Lib.hid hrun; have HC4 := Lib.hid hc4; clear hrun hc4)
          | (at_builtin; refine Lib.wpList_append_run _ rfl _ _ 29 29 rfl _ _ rfl rfl _ _ HRU.out ?_)
          | (go_at_call 37; (with_reducible refine (HC4.out).mono ?_); rintro e w9 ⟨rfl, hfo⟩; have HFO := Lib.hid hfo; clear hfo))
        try simp only [Exit.jump]
        try simp only [Exit.noGoto_ret]
        go_ret2
        exact ⟨_, _, rfl, HFO.out⟩
  · rintro a' wq ⟨A1, n1, c1, v, f, rfl, HW⟩
    clear k1 k6 f1 HM HBR hs1 hs2 HW0
    have hps := wl_pass HW.out HBZ.out TB.out HNN.out hn9
    obtain ⟨⟨Av, mv, cv, hv⟩, hps⟩ := hps
    subst hv
    rcases hps with hps | hps | hps | hps
    · obtain ⟨c5, hn1, hc⟩ := hps
      have HC := Lib.hid hc
      have hn2 : (0 : Int) < n1 := by omega
      clear hc HW
      go_wp2_with (go_at_call 37; (with_reducible refine (HC.out).mono ?_); rintro e w5 ⟨rfl, hfo⟩; have HFO := Lib.hid hfo; clear hfo)
      try simp only [Exit.jump]
      try simp only [Exit.noGoto_ret]
      go_ret2
      exact ⟨_, _, rfl, HFO.out⟩
    · obtain ⟨b, c5, hbn, hc⟩ := hps
      have HC := Lib.hid hc
      clear hc HW
      have hbb : b = false ∨ (b = true ∧ ¬ (0 : Int) < n1) := by
        cases b
        · exact .inl rfl
        · exact .inr ⟨rfl, by rcases hbn with h | h; cases h; omega⟩
      clear hbn
      rcases hbb with rfl | ⟨rfl, hnn⟩
      all_goals
        go_wp2_with (first
          | (go_at_call 38; (with_reducible refine (HC.out).mono ?_); rintro e w5 ⟨A2, n2, c2, rfl, hc2⟩; have HC2 := Lib.hid hc2; clear hc2)
          | (go_at_call 39; (with_reducible refine (HC2.out).mono ?_); rintro e w6 ⟨rfl, hfo⟩; have HFO := Lib.hid hfo; clear hfo))
        try simp only [Exit.jump]
        try simp only [Exit.noGoto_ret]
        go_ret2
        exact ⟨_, _, rfl, HFO.out⟩
    · obtain ⟨b, c5, hbn, hn0, hc⟩ := hps
      have HC := Lib.hid hc
      clear hc HW
      obtain rfl : b = false := by
        rcases hbn with h | h
        · exact h
        · omega
      clear hbn
      all_goals
        go_wp2_with (first
          | (go_at_call 38; (with_reducible refine (HC.out).mono ?_); rintro e w5 ⟨A2, n2, c2, rfl, hlt2, hc2⟩; have HC2 := Lib.hid hc2; clear hc2)
          | (go_at_call 39; (with_reducible refine (HC2.out).mono ?_); rintro e w6 ⟨rfl, hc3⟩; have HC3 := Lib.hid hc3; clear hc3)
          | (go_at_call 40; (with_reducible refine (HC3.out).mono ?_); rintro e w7 ⟨A7, m7, c7, v8, w8, rfl, hrun, hwl⟩; have HRU := Lib.hid hrun; have HWL := Lib.hid hwl; clear hrun hwl)
          | (at_builtin; refine Lib.wpList_append_run _ rfl _ _ 29 29 rfl _ _ rfl rfl _ _ HRU.out ?_))
        try go_step3
        try simp only [Exit.jump]
        first
          | exact ⟨rfl, jw_intro rfl rfl HWL.out, by simp [lenV]; omega⟩
          | exact ⟨trivial, jw_intro rfl rfl HWL.out, by simp [lenV]; omega⟩
          | trace_state
    · obtain ⟨b, E9, E8, hE, c5, hbn, hc⟩ := hps
      have HC := Lib.hid hc
      have hE' : (E9 != 0) = true := by simpa using hE
      clear hc HW hE
      have hbb : b = false ∨ (b = true ∧ ¬ (0 : Int) < n1) := by
        cases b
        · exact .inl rfl
        · exact .inr ⟨rfl, by rcases hbn with h | h; cases h; omega⟩
      clear hbn
      rcases hbb with rfl | ⟨rfl, hnn⟩
      all_goals
        go_wp2_with (first
          | (go_at_call 38; (with_reducible refine (HC.out).mono ?_); rintro e w5 ⟨A2, n2, c2, rfl, hc2⟩; have HC2 := Lib.hid hc2; clear hc2)
          | (go_at_call 39; (with_reducible refine (HC2.out).mono ?_); rintro e w6 ⟨rfl, hc3⟩; have HC3 := Lib.hid hc3; clear hc3)
          | (go_at_call 40; (with_reducible refine (HC3.out).mono ?_); rintro e w7 ⟨A7, m7, c7, A8, m8, c8, w8, rfl, hrun, hc4⟩; have HRU := Lib.hid hrun; have HC4 := Lib.hid hc4; clear hrun hc4)
          | (at_builtin; refine Lib.wpList_append_run _ rfl _ _ 29 29 rfl _ _ rfl rfl _ _ HRU.out ?_)
          | (go_at_call 37; (with_reducible refine (HC4.out).mono ?_); rintro e w9 ⟨rfl, hfo⟩; have HFO := Lib.hid hfo; clear hfo))
        try simp only [Exit.jump]
        try simp only [Exit.noGoto_ret]
        go_ret2
        exact ⟨_, _, rfl, HFO.out⟩
end
end Go.Proofs.YtjofdgjcbjdhbaaGreatDoor
/- WALKS OF LAYER 10, ELEVENTH PART: Write, whole. -/
namespace Go.Proofs.YtjofdgjcbjdhbaaGreatDoor
open Go Go.RowKit
set_option maxHeartbeats 32000000
set_option maxRecDepth 100000
set_option linter.unusedVariables false
section
variable {w : World} {B a : Nat} {al nx : Value} {s : Fd.S}
theorem write_not (w : World) (x : Option Addr) (h : ∀ b : Addr, x = some b → w.cell? b = some (.bool false) ∧ b.spot = none) (A : Option Addr) (n c : Nat) : Calls Tryz.prog 22 #[.pointer x, .slice A n c] w fun e w' => e = .returned (.tuple #[.slice none 0 0, .int .i64 2]) ∧ w = w' := by
  have HM := Lib.hid (made_not w x h)
  clear h
  go_enter Tryz.func22, Tryz.ntmps22
  go_wp2
  go_step3
  go_wp2_with (go_at_call 35; (with_reducible refine (HM.out).mono ?_); rintro e w2 ⟨rfl, rfl⟩)
  try simp only [Exit.noGoto_ret]
  go_ret2
  exact ⟨rfl, rfl⟩
theorem write_broken (h : Fs w B a al nx s) (h0 : s.st ≠ 0) (h4 : s.st ≠ 4) (A : Option Addr) (n c : Nat) :
    Calls Tryz.prog 22 #[.pointer (some ⟨a, 0, none⟩), .slice A n c] w fun e w' => e = .returned (.tuple #[.slice none 0 0, .int .i64 s.st]) ∧ Below w.heap.size w w' := by
  have HM := Lib.hid (made_cell h.lo.1)
  have HBR := Lib.hid (broken_any10 h.lo.2.2.2.2.2.2)
  rw [show (decide (s.st ≠ 0) && decide (s.st ≠ 4)) = true by simp [h0, h4]] at HBR
  have k6 := h.lo.2.2.2.2.2.2
  clear h h0 h4
  generalize s.st = st at *
  go_enter Tryz.func22, Tryz.ntmps22
  go_wp2
  go_step3
  go_upto_region 4 with (first
    | (go_at_call 35; (with_reducible refine (HM.out).mono ?_); rintro e w2 ⟨rfl, rfl⟩)
    | (go_at_call 36; (with_reducible refine (HBR.out).mono ?_); rintro e w2 ⟨rfl, rfl⟩))
  go_quiet (fail)
  go_wp2
  try simp only [Exit.noGoto_ret]
  go_ret2
  exact ⟨rfl, below_drewN (Below.refl _ _) _⟩
theorem write_over (h : Fs w B a al nx s) (h4 : s.st = 4) (A : Option Addr) (n c : Nat) (hn : n ≤ 50000) (ha : s.at_ ≤ 50000) :
    Calls Tryz.prog 22 #[.pointer (some ⟨a, 0, none⟩), .slice A n c] w fun e w' => e = .returned (.tuple #[.slice none 0 0, .int .i64 0]) ∧ Fs w' B a al nx (Fd.come s n) ∧ Oth a w w' := by
  have HM := Lib.hid (made_cell h.lo.1)
  have HBR := Lib.hid (broken_any10 h.lo.2.2.2.2.2.2)
  rw [h4, show (decide ((4 : Int) ≠ 0) && decide ((4 : Int) ≠ 4)) = false from rfl] at HBR
  have k6 := h.lo.2.2.2.2.2.2
  rw [h4] at k6
  have k1 := h.lo.2.1
  have f1 := h.box.free 1
  have HF := Lib.hid (h.set_lo 1 (.int .i64 ((s.at_ + n : Nat) : Int)) (Fd.come s n) (by decide) rfl rfl rfl rfl rfl)
  have HO := Lib.hid ((Oth.refl a w).setCell 1 (.int .i64 ((s.at_ + n : Nat) : Int)))
  have hs1 : IntKind.i64.wrap ((s.at_ : Int) + (n : Int)) = (s.at_ : Int) + (n : Int) := by go_arith
  have hs2 : (s.at_ : Int) + (n : Int) ≤ 100000 := by omega
  clear h h4
  go_enter Tryz.func22, Tryz.ntmps22
  go_wp2
  go_step3
  go_wp2_with (first
    | (go_at_call 35; (with_reducible refine (HM.out).mono ?_); rintro e w2 ⟨rfl, rfl⟩)
    | (go_at_call 36; (with_reducible refine (HBR.out).mono ?_); rintro e w2 ⟨rfl, rfl⟩))
  try simp only [Exit.noGoto_ret]
  go_ret2
  exact ⟨rfl, HF.out, HO.out⟩
theorem write_any10 {N : Nat} (h : Fs w B a al nx s) (hB : B ≤ w.heap.size) (tb : ∀ W, Below B w W → Tab W) (hst : Fd.Wst N s) (A : Option Addr) (n c : Nat) (xs : List Int) (hd : RB w B A n xs) (hx : Byt xs) (hc : n ≤ c) (hc2 : c ≤ maxLen) (hN : N + n ≤ 50000) :
    Calls Tryz.prog 22 #[.pointer (some ⟨a, 0, none⟩), .slice A n c] w fun e w' => ∃ v s' m E, e = .returned (.tuple #[v, .int .i64 E]) ∧ Fd.WrT s xs s' m E ∧ PR w' w.heap.size v m ∧ (∃ al' nx', Fs w' B a al' nx' s') ∧ Oth a w w' := by
  have hxl := hd.1
  by_cases h0 : s.st = 0
  · refine (write_on h hB tb hst h0 A n c xs hd hx hc hc2 hN).mono fun e w' ⟨v, E, h1, s', m, h2, h3, h4, h5⟩ => ⟨v, s', m, E, h1, Fd.WrT.on h0 (by rw [hxl]; exact h2), h3, h4, h5⟩
  · by_cases h4 : s.st = 4
    · have ha := hst.1.an
      refine (write_over h h4 A n c (by omega) (by omega)).mono fun e w' ⟨h1, h2, h3⟩ => ⟨_, _, _, _, h1, Fd.WrT.over h4, PR.nil _ _, ⟨_, _, by rw [hxl]; exact h2⟩, h3⟩
    · refine (write_broken h h0 h4 A n c).mono fun e w' ⟨h1, h2⟩ => ⟨_, _, _, _, h1, Fd.WrT.broken h0 h4, PR.nil _ _, ⟨_, _, h.below h2⟩, Oth.ofBelow h2⟩
end
end Go.Proofs.YtjofdgjcbjdhbaaGreatDoor
/- WALKS OF LAYER 10, TWELFTH PART: the law's cuts. -/
namespace Go.Proofs.YtjofdgjcbjdhbaaGreatDoor
open Go Go.RowKit
set_option maxHeartbeats 32000000
set_option maxRecDepth 100000
set_option linter.unusedVariables false
/-- A slice of 16-bit numbers that reads as l. -/
def HR (w : World) (B : Nat) (A : Option Addr) (n : Nat) (l : List Int) : Prop :=
  l.length = n ∧ (∀ j, 0 ≤ l.getD j 0 ∧ l.getD j 0 ≤ 65535) ∧ (0 < n → ∃ b o, A = some ⟨b, o, none⟩ ∧ b < B ∧ ∀ j, j < n → w.cell? ⟨b, o + j, none⟩ = some (.int .u16 (l.getD j 0)))
theorem HR.below {w w' : World} {B n : Nat} {A : Option Addr} {l : List Int} (h : HR w B A n l) (hb : Below B w w') : HR w' B A n l :=
  ⟨h.1, h.2.1, fun hn => by
    obtain ⟨b, o, e, hlt, hc⟩ := h.2.2 hn
    exact ⟨b, o, e, hlt, fun j hj => (hb.cell (p := ⟨b, o + j, none⟩) hlt).trans (hc j hj)⟩⟩
/-- A piece. -/
structure Pc where
  A : Option Addr
  n : Nat
  c : Nat
  xs : List Int
def pcv (p : Pc) : Value := .slice p.A p.n p.c
def pcs (ps : List Pc) : List Value := ps.map pcv
def pct (ps : List Pc) : Nat := (ps.map Pc.n).sum
def PcOk (w : World) (B : Nat) (p : Pc) : Prop := RB w B p.A p.n p.xs ∧ Byt p.xs ∧ p.n ≤ p.c ∧ p.c ≤ maxLen
theorem PcOk.below {w w' : World} {B : Nat} {p : Pc} (h : PcOk w B p) (hb : Below B w w') : PcOk w' B p := ⟨h.1.below hb, h.2⟩
theorem info_sl : (Tryz.prog.info? 25).map (fun i => (i.zero, i.size, i.bytes)) = some (some (.slice none 0 0), 1, 24) := by kernel_rfl
theorem pc_one (p : Pc) : ∀ u ∈ [pcv p], u.oneCell' = true := by
  intro u hu
  obtain rfl : u = pcv p := by simpa using hu
  rfl
theorem cuts_any10 (A : Option Addr) (n c : Nat) (xs : List Int) (A2 : Option Addr) (m c2 : Nat) (l : List Int) (w : World) (Bb : Nat) (hBb : Bb ≤ w.heap.size) (hd : RB w Bb A n xs) (hx : Byt xs) (hc : n ≤ c) (hc2 : c ≤ maxLen) (hl : HR w Bb A2 m l) (hm : m ≤ c2) (hm2 : c2 ≤ maxLen) (hn : n ≤ 50000) :
    Calls Tryz.prog 21 #[.slice A n c, .slice A2 m c2] w fun e w' => ∃ v ps, e = .returned v ∧ w'.ownsRow w.heap.size 25 1 v ps.length (pcs ps) ∧ (∀ p ∈ ps, PcOk w Bb p) ∧ pct ps = n ∧ ps.length ≤ 21 ∧ Below w.heap.size w w' := by
  obtain ⟨i0, hi, hz0, hz1, hz2⟩ := info_parts info_sl
  unfold maxLen at hm2
  obtain ⟨mm, hmm⟩ : ∃ mm : Nat, mm = min m 20 := ⟨_, rfl⟩
  have hmi : min (m : Int) 20 = (mm : Int) := by omega
  have hmn : mm ≤ m := by omega
  have hmc : mm ≤ c2 := by omega
  have hm20 : mm ≤ 20 := by omega
  clear hmm
  have HL := Lib.hid hl
  have HW0 := Lib.hid (show ∃ ps : List Pc, ps.length = 0 ∧ pcs ps = [] ∧ (∀ p ∈ ps, PcOk w Bb p) ∧ pct ps + n = n ∧ RB w Bb A n xs ∧ Byt xs from ⟨[], rfl, rfl, fun p h => (by cases h), (by simp [pct]), hd, hx⟩)
  have hc2' : c ≤ maxLen := hc2
  clear hl hd hx
  go_enter Tryz.func21, Tryz.ntmps21
  go_wp2
  go_loopw [0, 5, 15] (fun b v i wr => ∃ (j : Nat) (A1 : Option Addr) (n1 c1 : Nat), j ≤ mm ∧ i = .int .i64 j ∧ b = .slice A1 n1 c1 ∧ n1 ≤ c1 ∧ c1 ≤ maxLen ∧ n1 ≤ n ∧ Hid (∃ (ps : List Pc) (ys : List Int), ps.length = j ∧ wr.ownsRow w.heap.size 25 1 v j (pcs ps) ∧ (∀ p ∈ ps, PcOk w Bb p) ∧ pct ps + n1 = n ∧ RB w Bb A1 n1 ys ∧ Byt ys) ∧ Below w.heap.size w wr) (fun _ _ i _ => mm - (intOf i).toNat)
  case atStart =>
    obtain ⟨ps, p1, p2, p3, p4, p5, p6⟩ := HW0.out
    exact ⟨0, A, n, c, by omega, rfl, rfl, hc, hc2', Nat.le_refl _, ⟨ps, xs, p1, by rw [p2]; exact World.ownsRow_nil _ _ _ _, p3, p4, p5, p6⟩, Below.refl _ _⟩
  case round =>
    obtain ⟨j, A1, n1, c1, hj, rfl, rfl, hnc, hcm, hnn, HS, hb⟩ := hrel
    obtain ⟨ps, ys, p1, p2, p3, p4, p5, p6⟩ := HS.out
    have HP2 := Lib.hid p2
    have HP3 := Lib.hid p3
    have HP5 := Lib.hid p5
    have HP6 := Lib.hid p6
    obtain ⟨Au, cu, rfl, _⟩ := owns_slice p2
    clear HS HW0 p2 p3 p5 p6
    by_cases hlt : j < mm
    · have hlt' : (j : Int) < mm := by omega
      obtain ⟨b, o, hA, hbl, hcell⟩ := (HL.out.below (hb.mono hBb)).2.2 (by omega)
      subst hA
      have q0 := hcell j (by omega)
      obtain ⟨z0, z1⟩ := HL.out.2.1 j
      generalize l.getD j 0 = z at *
      clear hcell
      obtain ⟨kk, hkk⟩ : ∃ kk : Nat, z.tmod ((n1 : Int) + 1) = (kk : Int) := ⟨(z % ((n1 : Int) + 1)).toNat, by rw [Int.tmod_eq_emod_of_nonneg z0, Int.toNat_of_nonneg (Int.emod_nonneg _ (by omega))]⟩
      have hkn : kk ≤ n1 := by
        have h1 := Int.emod_lt_of_pos z (show (0 : Int) < (n1 : Int) + 1 by omega)
        rw [Int.tmod_eq_emod_of_nonneg z0] at hkk
        omega
      have hnz : ((n1 : Int) + 1 == 0) = false := by simp; omega
      have hnz2 : ¬ (n1 : Int) + 1 = 0 := by omega
      have hkc : kk ≤ c1 := by omega
      have front : RB w Bb A1 kk (ys.take kk) := by
        refine ⟨by rw [List.length_take, HP5.out.1]; omega, fun h0 => ?_⟩
        obtain ⟨b9, o9, rfl, _, _⟩ := HP5.out.2 (by omega)
        exact (HP5.out.front hkn).2 h0
      have HNP := Lib.hid (show PcOk w Bb ⟨A1, kk, c1, ys.take kk⟩ from ⟨front, Fd.byt_tk HP6.out _, hkc, hcm⟩)
      have HO2 := Lib.hid (owns_below HP2.out (mb_new wr (.cells #[.slice A1 kk c1] 25)))
      have HB2 := Lib.hid (hb.alloc hb.size (.cells #[.slice A1 kk c1] 25))
      have NEWS := Lib.hid (news_of wr 25 [.slice A1 kk c1])
      have ONE := Lib.hid (pc_one ⟨A1, kk, c1, ys.take kk⟩)
      clear front
      have HREL := Lib.hid (fun (w3 : World) (v3 : Value) (hown : w3.ownsRow w.heap.size 25 1 v3 (j + 1) (pcs ps ++ [.slice A1 kk c1])) => (show (ps ++ [(⟨A1, kk, c1, ys.take kk⟩ : Pc)]).length = j + 1 ∧ w3.ownsRow w.heap.size 25 1 v3 (j + 1) (pcs (ps ++ [(⟨A1, kk, c1, ys.take kk⟩ : Pc)])) ∧ (∀ p ∈ ps ++ [(⟨A1, kk, c1, ys.take kk⟩ : Pc)], PcOk w Bb p) ∧ pct (ps ++ [(⟨A1, kk, c1, ys.take kk⟩ : Pc)]) + (n1 - kk) = n from by
        refine ⟨by rw [List.length_append, p1]; rfl, by unfold pcs at hown ⊢; rw [List.map_append]; exact hown, fun p hp => ?_, by unfold pct at p4 ⊢; rw [List.map_append, List.sum_append]; simp; omega⟩
        rcases List.mem_append.1 hp with h | h
        · exact HP3.out p h
        · obtain rfl : p = ⟨A1, kk, c1, ys.take kk⟩ := by simpa using h
          exact HNP.out))
      have HBK := Lib.hid (HP5.out.add hkn)
      have HYD := Lib.hid (HP6.out.drop kk)
      have hck2 : c1 - kk ≤ maxLen := by omega
      generalize pcs ps = X at *
      by_cases hck : c1 = kk
      · subst hck
        obtain rfl : n1 = c1 := by omega
        go_wp2_with (at_builtin; refine wpList_append_own _ rfl _ _ 58 rfl w.heap.size 25 i0 (.slice none 0 0) 1 24 Tryz.underlying58 hi hz0 hz1 hz2 rfl (by decide) (.slice Au j cu) j X rfl HO2.out ⟨wr.heap.size, 0, none⟩ 1 1 [.slice A1 n1 n1] rfl rfl NEWS.out ONE.out (by unfold maxLen; omega) (by omega) (by have := HB2.out.size; simp at this ⊢; omega) ?_; intro v3 w3 hown3 hgrow3 hnil3; have HO3 := Lib.hid hown3; have HB3 := Lib.hid (below_app6 HB2.out (Nat.le_refl _) HO2.out hgrow3); clear hown3 hgrow3 hnil3)
        go_roundw
        case rel =>
          obtain ⟨g1, g2, g3, g4⟩ := HREL.out _ _ HO3.out
          exact ⟨j + 1, A1, 0, 0, by omega, by go_num, by simp, by omega, by omega, by omega, ⟨_, [], g1, g2, g3, by omega, ⟨rfl, fun h => absurd h (by omega)⟩, Byt.nil⟩, HB3.out⟩
        case measure => simp [intOf]; omega
      · go_wp2_with (at_builtin; refine wpList_append_own _ rfl _ _ 58 rfl w.heap.size 25 i0 (.slice none 0 0) 1 24 Tryz.underlying58 hi hz0 hz1 hz2 rfl (by decide) (.slice Au j cu) j X rfl HO2.out ⟨wr.heap.size, 0, none⟩ 1 1 [.slice A1 kk c1] rfl rfl NEWS.out ONE.out (by unfold maxLen; omega) (by omega) (by have := HB2.out.size; simp at this ⊢; omega) ?_; intro v3 w3 hown3 hgrow3 hnil3; have HO3 := Lib.hid hown3; have HB3 := Lib.hid (below_app6 HB2.out (Nat.le_refl _) HO2.out hgrow3); clear hown3 hgrow3 hnil3)
        go_roundw
        case rel =>
          obtain ⟨g1, g2, g3, g4⟩ := HREL.out _ _ HO3.out
          exact ⟨j + 1, A1.map (fun x => x.add kk), n1 - kk, c1 - kk, by omega, by go_num, rfl, by omega, hck2, by omega, ⟨_, ys.drop kk, g1, g2, g3, g4, HBK.out, HYD.out⟩, HB3.out⟩
        case measure => simp [intOf]; omega
    · obtain rfl : j = mm := by omega
      have hlt' : ¬ (j : Int) < j := by omega
      have HNP := Lib.hid (show PcOk w Bb ⟨A1, n1, c1, ys⟩ from ⟨HP5.out, HP6.out, hnc, hcm⟩)
      have HO2 := Lib.hid (owns_below HP2.out (mb_new wr (.cells #[.slice A1 n1 c1] 25)))
      have HB2 := Lib.hid (hb.alloc hb.size (.cells #[.slice A1 n1 c1] 25))
      have NEWS := Lib.hid (news_of wr 25 [.slice A1 n1 c1])
      have ONE := Lib.hid (pc_one ⟨A1, n1, c1, ys⟩)
      obtain ⟨X, hX⟩ : ∃ X, X = pcs ps := ⟨_, rfl⟩
      rw [← hX] at HO2
      have HX := Lib.hid hX
      clear hX
      go_wp2_with (at_builtin; refine wpList_append_own _ rfl _ _ 58 rfl w.heap.size 25 i0 (.slice none 0 0) 1 24 Tryz.underlying58 hi hz0 hz1 hz2 rfl (by decide) (.slice Au j cu) j X rfl HO2.out ⟨wr.heap.size, 0, none⟩ 1 1 [.slice A1 n1 c1] rfl rfl NEWS.out ONE.out (by unfold maxLen; omega) (by omega) (by have := HB2.out.size; simp at this ⊢; omega) ?_; intro v3 w3 hown3 hgrow3 hnil3; have HO3 := Lib.hid hown3; have HB3 := Lib.hid (below_app6 HB2.out (Nat.le_refl _) HO2.out hgrow3); clear hown3 hgrow3 hnil3)
      go_ret
      have e1 : w3.ownsRow w.heap.size 25 1 v3 (ps ++ [(⟨A1, n1, c1, ys⟩ : Pc)]).length (pcs (ps ++ [(⟨A1, n1, c1, ys⟩ : Pc)])) := by
        rw [List.length_append, p1]
        unfold pcs
        rw [List.map_append]
        have h9 := HO3.out
        rw [HX.out] at h9
        exact h9
      have e2 : ∀ p ∈ ps ++ [(⟨A1, n1, c1, ys⟩ : Pc)], PcOk w Bb p := fun p hp => by
        rcases List.mem_append.1 hp with h | h
        · exact HP3.out p h
        · obtain rfl : p = ⟨A1, n1, c1, ys⟩ := by simpa using h
          exact HNP.out
      have e3 : pct (ps ++ [(⟨A1, n1, c1, ys⟩ : Pc)]) = n := by
        unfold pct at p4 ⊢
        rw [List.map_append, List.sum_append]
        simp
        omega
      have e4 : (ps ++ [(⟨A1, n1, c1, ys⟩ : Pc)]).length ≤ 21 := by rw [List.length_append]; simp; omega
      first
        | exact ⟨_, _, rfl, e1, e2, e3, e4, HB3.out⟩
        | exact ⟨_, rfl, _, e1, e2, e3, e4, HB3.out⟩
        | exact ⟨_, rfl, ⟨_, e1, e2, e3, e4⟩, HB3.out⟩
end Go.Proofs.YtjofdgjcbjdhbaaGreatDoor
/- WALKS OF LAYER 10, THIRTEENTH PART: alive. -/
namespace Go.Proofs.YtjofdgjcbjdhbaaGreatDoor
open Go Go.RowKit
set_option maxHeartbeats 32000000
set_option maxRecDepth 100000
set_option linter.unusedVariables false
theorem lay_a : Mb.layM ⟨#[97]⟩ ⟨#[]⟩ 0 4 0 0 0 0 [] = Fd.yA := by
  have e0 : Mb.layM ⟨#[97]⟩ ⟨#[]⟩ 0 4 0 0 0 0 [] = Mb.recB (Mb.recsL ⟨#[97]⟩ ⟨#[]⟩ 0) ++ Mb.ownB ⟨#[97]⟩ ⟨#[]⟩ 0 4 0 0 0 0 [] := Mb.lay_eq8 (xs := []) Ar.mA_may
  rw [e0]
  rw [show Mb.recB (Mb.recsL ⟨#[97]⟩ ⟨#[]⟩ 0) = [] by rw [show Mb.recsL ⟨#[97]⟩ ⟨#[]⟩ 0 = [] from by decide +kernel]; rfl, List.nil_append]
  unfold Mb.ownB
  rw [show Mb.fill [] = [] from rfl, List.append_nil]
  rfl
theorem wst_new : Fd.Wst 0 Fd.new := ⟨Fd.ok_new, fun _ => rfl, fun _ => by decide⟩
theorem pr_first {w : World} {base : Nat} {v : Value} {q : ByteArray} (h : PR w base v [q]) : ∃ g o c, v = .slice (some ⟨g, o, none⟩) 1 c ∧ w.cell? ⟨g, o, none⟩ = some (.string q) ∧ g < w.heap.size := by
  obtain ⟨its, h1, h2⟩ := h
  obtain ⟨y, rfl⟩ : ∃ y, its = [y] := List.length_eq_one_iff.1 (by have := congrArg List.length h2; simpa using this)
  have hy : y.p = q := by simpa using h2
  rcases h1.2 with ⟨h0, h3⟩ | ⟨g, cap, cur, h0, hb, hg, hnc, hcm, hcs, htake⟩
  · simp at h3
  · refine ⟨g, 0, cap, h0, ?_, (World.ownsRow.lt h1 g (by rw [h0]; rfl)).2⟩
    subst h0
    rw [World.ownsRow.cellAt h1 0 (by simp)]
    show some (Value.string y.p) = _
    rw [hy]
theorem alive10_any (w : World) (tb : Tab w) : Calls Tryz.prog 19 #[] w fun e w' => e = .returned (.bool true) ∧ Below w.heap.size w w' := by
  obtain ⟨yl, yb, _⟩ := Fd.yA_facts
  have lay := mlay_any ⟨#[97]⟩ ⟨#[]⟩ 4 0 0 0 0 none 0 0 0 [] w tb RB.nil (by decide) (by decide) (by omega) Ar.cutA
  rw [show Mb.may ⟨#[97]⟩ ⟨#[]⟩ 4 0 0 0 0 0 = 0 from Ar.mA_may, lay_a] at lay
  have LAY := Lib.hid lay
  have W1 := Lib.hid (fun (w1 : World) (A1 : Option Addr) (c1 : Nat) (hb1 : Below w.heap.size w w1) (hr : RB w1 w1.heap.size A1 512 Fd.yA) (h5 : 512 ≤ c1) (hm : c1 ≤ maxLen) (w2 : World) (al nx : Value) (hf : Fs w2 w1.heap.size w1.heap.size al nx Fd.new) (hb2 : Below w1.heap.size w1 w2) =>
    (write_any10 hf hb2.size (fun W h => tb.on (hb1.trans ((hb2.trans h).mono hb1.size))) wst_new A1 100 c1 (Fd.yA.take 100) ⟨by rw [List.length_take, yl]; rfl, fun h0 => by
      obtain ⟨b9, o9, rfl, _⟩ := hr.2 (by omega)
      exact ((RB.front (k := 100) (show RB w2 w1.heap.size (some ⟨b9, o9, none⟩) 512 Fd.yA from hr.below hb2) (by omega)).2 h0)⟩ (Fd.byt_tk yb _) (by omega) hm (by omega)))
  have W2 := Lib.hid (fun (w1 : World) (b9 o9 : Nat) (c1 : Nat) (hb1 : Below w.heap.size w w1) (hr : RB w1 w1.heap.size (some ⟨b9, o9, none⟩) 512 Fd.yA) (h5 : 512 ≤ c1) (hm : c1 ≤ maxLen) (w3 : World) (al nx : Value) (s1 : Fd.S) (m1 : List ByteArray) (E1 : Int) (hw : Fd.WrT Fd.new (Fd.yA.take 100) s1 m1 E1) (hf : Fs w3 w1.heap.size w1.heap.size al nx s1) (hb3 : Below w1.heap.size w1 w3) =>
    (write_any10 hf hb3.size (fun W h => tb.on (hb1.trans ((hb3.trans h).mono hb1.size))) (Fd.wrt_st hw wst_new (Fd.byt_tk yb _)).1 (some ⟨b9, o9 + 100, none⟩) 412 (c1 - 100) (Fd.yA.drop 100) (RB.back (k := 100) (hr.below hb3) (by omega)) (yb.drop _) (by omega) (by omega) (by rw [List.length_take, yl]; decide)))
  have YL := Lib.hid yl
  clear lay tb
  go_enter Tryz.func19, Tryz.ntmps19
  go_wp2_with (first
    | (go_at_call 33; (with_reducible refine (LAY.out).mono ?_); rintro e w1 ⟨v1, rfl, ho1, hb1⟩; obtain ⟨A1, c1, rfl, hr1, hc1, hm1⟩ := ho1.rb; rw [YL.out] at hr1 hc1 ⊢; obtain ⟨b9, o9, rfl, _⟩ := hr1.2 (by omega); have hne : ¬ c1 = 100 := (by omega); have hne2 : 100 ≤ c1 := (by omega); have HR1 := Lib.hid hr1; have HC1 := Lib.hid hc1; have HM1 := Lib.hid hm1; have HB1 := Lib.hid hb1; have NEW := Lib.hid (new_any10 w1); clear ho1 hb1 hr1)
    | (go_at_call 20; (with_reducible refine (NEW.out).mono ?_); rintro e w2 ⟨rfl, hf2, hb2⟩; have HF2 := Lib.hid hf2; have HB2 := Lib.hid hb2; have WW1 := Lib.hid (W1.out w1 _ c1 HB1.out HR1.out HC1.out HM1.out w2 _ _ hf2 hb2); clear hf2 hb2))
  go_at_call 22
  refine (WW1.out).mono ?_
  rintro e w3 ⟨v3, s1, m1, E1, rfl, hw1, hp1, ⟨al3, nx3, hf3⟩, hb3⟩
  obtain ⟨rfl, rfl⟩ := Fd.alive_first hw1
  obtain ⟨Av3, cv3, rfl⟩ := hp1.slice
  rw [show ([] : List ByteArray).length = 0 from rfl]
  have HB3 := Lib.hid (HB2.out.trans (hb3.low HB2.out.size (Nat.le_refl _)))
  have WW2 := Lib.hid (W2.out w1 b9 o9 c1 HB1.out HR1.out HC1.out HM1.out w3 _ _ _ _ _ hw1 hf3 HB3.out)
  have HW1 := Lib.hid hw1
  clear hp1 hf3 hb3 hw1
  go_wp2_with (fail)
  go_at_call 22
  refine (WW2.out).mono ?_
  rintro e w4 ⟨v4, s2, m2, E2, rfl, hw2, hp2, ⟨al4, nx4, hf4⟩, hb4⟩
  obtain ⟨_, _, rfl, rfl, hmk, hst, hdn⟩ := Fd.alive_feed HW1.out hw2
  obtain ⟨g4, o4, c4, rfl, hcell, _⟩ := pr_first hp2
  have HB4 := Lib.hid (HB3.out.trans (hb4.low HB3.out.size (Nat.le_refl _)))
  have MRK := mark_any10 hf4
  rw [hmk] at MRK
  have CLO := close_any10 hf4
  rw [show closeS s2 = 4 by unfold closeS; rw [if_pos hst, hdn]; rfl] at CLO
  have MRK2 := Lib.hid MRK
  have CLO2 := Lib.hid CLO
  clear hw2 hp2 hf4 hb4 hmk hst hdn MRK CLO
  go_wp2_with (first
    | (go_at_call 24; (with_reducible refine (MRK2.out).mono ?_); rintro e w5 ⟨rfl, rfl⟩)
    | (go_at_call 27; (with_reducible refine (CLO2.out).mono ?_); rintro e w6 ⟨rfl, rfl⟩))
  go_ret
  exact ⟨rfl, HB1.out.trans (HB4.out.mono HB1.out.size)⟩
end Go.Proofs.YtjofdgjcbjdhbaaGreatDoor
