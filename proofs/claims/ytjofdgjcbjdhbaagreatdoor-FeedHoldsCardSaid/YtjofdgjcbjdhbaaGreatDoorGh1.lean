/- WALKS OF LAYER 5, SECOND PART: the writer's steps, head.Lay, May. -/
import Derived.Test.YtjofdgjcbjdhbaaGreatDoorH5a
import Derived.Test.YtjofdgjcbjdhbaaGreatDoorBx
import Derived.Test.YtjofdgjcbjdhbaaGreatDoorGb8
namespace Go.Proofs.YtjofdgjcbjdhbaaGreatDoor
open Go.RowKit
set_option maxHeartbeats 400000
set_option maxRecDepth 100000
theorem RB.src {w : World} {B n : Nat} {A : Option Addr} {xs : List Int} (h : RB w B A n xs) (hn : 0 < n) : ∃ ad, A = some ad ∧ ∀ j v, (xs.map (Value.int .u8))[j]? = some v → w.cell? (ad.add j) = some v := by
  obtain ⟨b, o, rfl, _, _⟩ := h.at_ hn
  exact ⟨_, rfl, h.news⟩
theorem wtext_any (a g c B off k : Nat) (xs : List Int) (e : Int) (s : ByteArray) (w : World) (hb : BX w a 159 #[.slice (some ⟨g, 0, none⟩) 512 c, .int .i64 e])
    (ho : OBn w B 5 (.slice (some ⟨g, 0, none⟩) 512 c) 512 xs) (hne : a ≠ g) (hB : B ≤ a) (hk : off + k ≤ 512) (hk0 : 0 < k) (hs : s.size ≤ 1000000) :
    Calls Tryz.prog 119 #[.pointer (some ⟨a, 0, none⟩), .int .i64 off, .int .i64 k, .string s] w fun r w' => r = .returned (.tuple #[]) ∧
      BX w' a 159 #[.slice (some ⟨g, 0, none⟩) 512 c, .int .i64 (Hh.step (xs, e) off (Sf.putS s k)).2] ∧ OBn w' B 5 (.slice (some ⟨g, 0, none⟩) 512 c) 512 (Hh.step (xs, e) off (Sf.putS s k)).1 ∧ Below B w w' := by
  have c0 : w.cell? ⟨a, 0, none⟩ = some (.slice (some ⟨g, 0, none⟩) 512 c) := hb.cell rfl
  have c1 : w.cell? ⟨a, 1, none⟩ = some (.int .i64 e) := hb.cell rfl
  by_cases he : e = 0
  · subst he
    have pt := put_any2 s k w hs
    have hl := (Hh.len_putT s k).1
    obtain ⟨⟨ys, e2⟩, hP⟩ : ∃ P, Sf.putS s k = P := ⟨_, rfl⟩
    rw [hP] at pt hl ⊢
    have hst : Hh.step (xs, 0) off (ys, e2) = (Hh.put xs off ys, e2) := by simp [Hh.step]
    rw [hst]
    simp only at pt hl ⊢
    have fin : ∀ w1, Below w.heap.size w w1 → w1.cell? ⟨a, 0, none⟩ = some (.slice (some ⟨g, 0, none⟩) 512 c) ∧ BX w1 a 159 #[.slice (some ⟨g, 0, none⟩) 512 c, .int .i64 0] ∧
        ∃ l : List Value, w1.heap[g]? = some (.cells l.toArray 5 (0, 0)) ∧ 512 ≤ c ∧ c ≤ maxLen ∧ l.length = c ∧ l.take 512 = xs.map (Value.int .u8) ∧ B ≤ g := fun w1 h => by
      obtain ⟨g', c', cur, he, h1, _, h2, h3, h4, h5, h6⟩ := (ho.later h).shape (by omega)
      cases he
      exact ⟨(hb.later h).cell rfl, hb.later h, cur.toList, by simpa using h2, h3, h4, by simpa using h5, by simpa using h6, h1⟩
    have hxl := ho.len
    have hbs : B ≤ w.heap.size := by have := hb.lt; omega
    have PT := Lib.hid pt; have HB := Lib.hid hb; have HO := Lib.hid ho; have FIN := Lib.hid fin; have HXL := Lib.hid hxl; have HBS := Lib.hid hbs
    clear pt hP hst hb ho fin hxl hbs
    go_enter Tryz.func119, Tryz.ntmps119
    go_wp2_with (first
      | (go_at_call 144; (with_reducible refine PT.out.mono ?_); rintro e w1 ⟨v1, rfl, ho1, hb1⟩; obtain ⟨d0, dbx, l, dh, hc1, hc2, hll, hlt, hBg⟩ := FIN.out w1 hb1; have hcne : ¬ c = off := (by omega); obtain ⟨A1, k1, rfl, hr1, _, _⟩ := ho1.rb; have hofc : off ≤ c := (by omega); have hof5 : off ≤ 512 := (by omega); have HBX := Lib.hid dbx; have HH := Lib.hid dh; clear dbx dh)
      | (refine wpList_copy_keep rfl _ _ 25 25 rfl 5 Tryz.underlying25 (by kernel_rfl) (some ⟨g, off, none⟩) A1 (512 - off) (c - off) ys.length k1 rfl rfl g off l 5 HH.out (ys.map (Value.int .u8)) (by rw [List.length_map]; exact (Nat.min_eq_left (by omega)).symm) (fun h => ⟨rfl, hr1.src (by simpa using h)⟩) (by rw [List.length_map]; omega) (u8_cells _) ?_
         intro w2 hg2 hot2
         have hbx2 := HBX.out.oth hot2.out hne
         have f1 := hbx2.free 1
         have f2 : w2.cell? ⟨a, 1, none⟩ = some (.int .i64 0) := hbx2.cell rfl
         have HBX2 := Lib.hid hbx2; clear hbx2))
    refine bodyPost_end (v := .tuple #[]) (by simp [results, Tryz.f119, go_sem]) rfl ⟨rfl, ?_, ?_, ?_⟩
    · have := HBX2.out.set 1 (.int .i64 e2)
      simpa using this
    · have h := OBn.spliced (base := B) (xs := xs) (n := 512) hg2.out hll hc1 hc2 hBg hlt HXL.out (by omega)
      exact h.beside hne _
    · have hs2 := hb1.size
      exact ((hb1.mono HBS.out).trans (hot2.out.below hBg (by have := HBS.out; omega))).setCell hB _
  · have e1 : (e != 0) = true := by simp [he]
    have hst : ∀ f, Hh.step (xs, e) off f = (xs, e) := fun f => by simp [Hh.step, he]
    rw [hst]
    have HB := Lib.hid hb; have HO := Lib.hid ho
    clear hst he hb ho
    go_enter Tryz.func119, Tryz.ntmps119
    go_wp2
    refine bodyPost_ret (v := .tuple #[]) (by simp [results, Tryz.f119, go_sem]) rfl ⟨rfl, HB.out, HO.out, Below.refl _ _⟩
theorem wnum_any (a g c B off k : Nat) (xs : List Int) (e : Int) (s : Int) (w : World) (hb : BX w a 159 #[.slice (some ⟨g, 0, none⟩) 512 c, .int .i64 e])
    (ho : OBn w B 5 (.slice (some ⟨g, 0, none⟩) 512 c) 512 xs) (hne : a ≠ g) (hB : B ≤ a) (hk : off + k ≤ 512) (hk0 : 0 < k) (hs0 : -9223372036854775808 ≤ s) (hs1 : s ≤ 9223372036854775807) :
    Calls Tryz.prog 120 #[.pointer (some ⟨a, 0, none⟩), .int .i64 off, .int .i64 k, .int .i64 s] w fun r w' => r = .returned (.tuple #[]) ∧
      BX w' a 159 #[.slice (some ⟨g, 0, none⟩) 512 c, .int .i64 (Hh.step (xs, e) off (Nf.putS s k)).2] ∧ OBn w' B 5 (.slice (some ⟨g, 0, none⟩) 512 c) 512 (Hh.step (xs, e) off (Nf.putS s k)).1 ∧ Below B w w' := by
  have c0 : w.cell? ⟨a, 0, none⟩ = some (.slice (some ⟨g, 0, none⟩) 512 c) := hb.cell rfl
  have c1 : w.cell? ⟨a, 1, none⟩ = some (.int .i64 e) := hb.cell rfl
  by_cases he : e = 0
  · subst he
    have pt := put_any s k w hs0 hs1
    have hl := (Hh.len_putN s k hs0 hs1).1
    obtain ⟨⟨ys, e2⟩, hP⟩ : ∃ P, Nf.putS s k = P := ⟨_, rfl⟩
    rw [hP] at pt hl ⊢
    have hst : Hh.step (xs, 0) off (ys, e2) = (Hh.put xs off ys, e2) := by simp [Hh.step]
    rw [hst]
    simp only at pt hl ⊢
    have fin : ∀ w1, Below w.heap.size w w1 → w1.cell? ⟨a, 0, none⟩ = some (.slice (some ⟨g, 0, none⟩) 512 c) ∧ BX w1 a 159 #[.slice (some ⟨g, 0, none⟩) 512 c, .int .i64 0] ∧
        ∃ l : List Value, w1.heap[g]? = some (.cells l.toArray 5 (0, 0)) ∧ 512 ≤ c ∧ c ≤ maxLen ∧ l.length = c ∧ l.take 512 = xs.map (Value.int .u8) ∧ B ≤ g := fun w1 h => by
      obtain ⟨g', c', cur, he, h1, _, h2, h3, h4, h5, h6⟩ := (ho.later h).shape (by omega)
      cases he
      exact ⟨(hb.later h).cell rfl, hb.later h, cur.toList, by simpa using h2, h3, h4, by simpa using h5, by simpa using h6, h1⟩
    have hxl := ho.len
    have hbs : B ≤ w.heap.size := by have := hb.lt; omega
    have PT := Lib.hid pt; have HB := Lib.hid hb; have HO := Lib.hid ho; have FIN := Lib.hid fin; have HXL := Lib.hid hxl; have HBS := Lib.hid hbs
    clear pt hP hst hb ho fin hxl hbs
    go_enter Tryz.func120, Tryz.ntmps120
    go_wp2_with (first
      | (go_at_call 145; (with_reducible refine PT.out.mono ?_); rintro e w1 ⟨v1, rfl, ho1, hb1⟩; obtain ⟨d0, dbx, l, dh, hc1, hc2, hll, hlt, hBg⟩ := FIN.out w1 hb1; have hcne : ¬ c = off := (by omega); obtain ⟨A1, k1, rfl, hr1, _, _⟩ := ho1.rb; have hofc : off ≤ c := (by omega); have hof5 : off ≤ 512 := (by omega); have HBX := Lib.hid dbx; have HH := Lib.hid dh; clear dbx dh)
      | (refine wpList_copy_keep rfl _ _ 25 25 rfl 5 Tryz.underlying25 (by kernel_rfl) (some ⟨g, off, none⟩) A1 (512 - off) (c - off) ys.length k1 rfl rfl g off l 5 HH.out (ys.map (Value.int .u8)) (by rw [List.length_map]; exact (Nat.min_eq_left (by omega)).symm) (fun h => ⟨rfl, hr1.src (by simpa using h)⟩) (by rw [List.length_map]; omega) (u8_cells _) ?_
         intro w2 hg2 hot2
         have hbx2 := HBX.out.oth hot2.out hne
         have f1 := hbx2.free 1
         have f2 : w2.cell? ⟨a, 1, none⟩ = some (.int .i64 0) := hbx2.cell rfl
         have HBX2 := Lib.hid hbx2; clear hbx2))
    refine bodyPost_end (v := .tuple #[]) (by simp [results, Tryz.f120, go_sem]) rfl ⟨rfl, ?_, ?_, ?_⟩
    · have := HBX2.out.set 1 (.int .i64 e2)
      simpa using this
    · have h := OBn.spliced (base := B) (xs := xs) (n := 512) hg2.out hll hc1 hc2 hBg hlt HXL.out (by omega)
      exact h.beside hne _
    · have hs2 := hb1.size
      exact ((hb1.mono HBS.out).trans (hot2.out.below hBg (by have := HBS.out; omega))).setCell hB _
  · have e1 : (e != 0) = true := by simp [he]
    have hst : ∀ f, Hh.step (xs, e) off f = (xs, e) := fun f => by simp [Hh.step, he]
    rw [hst]
    have HB := Lib.hid hb; have HO := Lib.hid ho
    clear hst he hb ho
    go_enter Tryz.func120, Tryz.ntmps120
    go_wp2
    refine bodyPost_ret (v := .tuple #[]) (by simp [results, Tryz.f120, go_sem]) rfl ⟨rfl, HB.out, HO.out, Below.refl _ _⟩
theorem wtext_at (a g c B off k : Nat) (O K : Int) (hO : O = off) (hK : K = k) (xs : List Int) (e : Int) (s : ByteArray) (xs' : List Int) (e' : Int) (hst : Hh.step (xs, e) off (Sf.putS s K) = (xs', e')) (w : World) (hb : BX w a 159 #[.slice (some ⟨g, 0, none⟩) 512 c, .int .i64 e])
    (ho : OBn w B 5 (.slice (some ⟨g, 0, none⟩) 512 c) 512 xs) (hne : ¬ a = g) (hB : B ≤ a) (hk : off + k ≤ 512) (hk0 : 0 < k) (hs : s.size ≤ 1000000) :
    Calls Tryz.prog 119 #[.pointer (some ⟨a, 0, none⟩), .int .i64 O, .int .i64 K, .string s] w fun r w' => r = .returned (.tuple #[]) ∧
      BX w' a 159 #[.slice (some ⟨g, 0, none⟩) 512 c, .int .i64 e'] ∧ OBn w' B 5 (.slice (some ⟨g, 0, none⟩) 512 c) 512 xs' ∧ Below B w w' := by
  subst hO
  subst hK
  have h := wtext_any a g c B off k xs e s w hb ho hne hB hk hk0 hs
  rw [hst] at h
  exact h
theorem wnum_at (a g c B off k : Nat) (O K : Int) (hO : O = off) (hK : K = k) (xs : List Int) (e : Int) (s : Int) (xs' : List Int) (e' : Int) (hst : Hh.step (xs, e) off (Nf.putS s K) = (xs', e')) (w : World) (hb : BX w a 159 #[.slice (some ⟨g, 0, none⟩) 512 c, .int .i64 e])
    (ho : OBn w B 5 (.slice (some ⟨g, 0, none⟩) 512 c) 512 xs) (hne : ¬ a = g) (hB : B ≤ a) (hk : off + k ≤ 512) (hk0 : 0 < k) (hs0 : -9223372036854775808 ≤ s) (hs1 : s ≤ 9223372036854775807) :
    Calls Tryz.prog 120 #[.pointer (some ⟨a, 0, none⟩), .int .i64 O, .int .i64 K, .int .i64 s] w fun r w' => r = .returned (.tuple #[]) ∧
      BX w' a 159 #[.slice (some ⟨g, 0, none⟩) 512 c, .int .i64 e'] ∧ OBn w' B 5 (.slice (some ⟨g, 0, none⟩) 512 c) 512 xs' ∧ Below B w w' := by
  subst hO
  subst hK
  have h := wnum_any a g c B off k xs e s w hb ho hne hB hk hk0 hs0 hs1
  rw [hst] at h
  exact h
end Go.Proofs.YtjofdgjcbjdhbaaGreatDoor
/- WALKS OF LAYER 5, THIRD PART: head.Lay and May. By gen_h5c.py. -/
namespace Go.Proofs.YtjofdgjcbjdhbaaGreatDoor
open Go.RowKit
set_option maxHeartbeats 1600000
set_option maxRecDepth 100000
theorem OBn.copiedAt {w : World} {base : Nat} {g n c off : Nat} {xs : List Int} (h : OBn w base 5 (.slice (some ⟨g, 0, none⟩) n c) n xs) (s : ByteArray) (hs : off + s.size ≤ n) :
    ∃ w', (∀ ty : TypeId, (Builtin.copy_ #[25, 9] ty #[.slice (some ⟨g, off, none⟩) (n - off) (c - off), .string s]).run Tryz.prog w = .ok (goInt s.size) w') ∧ OBn w' base 5 (.slice (some ⟨g, 0, none⟩) n c) n (Hh.put xs off (Sf.nums s)) ∧
      Oth g w w' := by
  have hl := h.len
  obtain ⟨hlen, h2⟩ := h
  rcases h2 with ⟨hh, _⟩ | ⟨g', cap, cur, hv, hb, hg, hnc, hcm, hcs, htake⟩
  · cases hh
  · cases hv
    have hnl : (Sf.nums s).length = s.size := by simp [Sf.nums]
    have hfit : off + s.size ≤ cur.size := by omega
    refine ⟨_, fun ty => Lib.run_copy_row_string (P := Tryz.prog) w 25 9 ty 5 g off (n - off) (c - off) s cur 5 Tryz.underlying25 (by kernel_rfl) hg (by omega) hfit, ?_, ⟨rfl, rfl, rfl, by simp [World.setRow], fun k _ hk => setRow_other w g k _ hk⟩⟩
    have hb2 : Lib.byteCells s.data.toList = (Sf.nums s).map (Value.int .u8) := by simp [Sf.nums, Lib.byteCells]
    have hheap : (w.setRow g (cur.toList.take off ++ Lib.byteCells s.data.toList ++ cur.toList.drop (off + s.size)).toArray).heap[g]? = some (.cells (cur.toList.take off ++ Lib.byteCells s.data.toList ++ cur.toList.drop (off + s.size)).toArray 5 (0, 0)) := setRow_heap w g _ _ _ _ hg
    rw [hb2] at hheap ⊢
    have := OBn.spliced (base := base) (off := off) (l := cur.toList) (xs := xs) (cs := Sf.nums s) (g := g) (n := n) (c := c) (w := w.setRow g (cur.toList.take off ++ (Sf.nums s).map (Value.int .u8) ++ cur.toList.drop (off + s.size)).toArray) (e := 5)
      (by rw [hheap]; simp [splice, hnl]) (by simpa using hcs) hnc hcm hb (by simpa using htake) hl (by omega)
    exact this

theorem hlay_any (p nm l : ByteArray) (m u g t z k : Int) (w : World) (hp : p.size ≤ 1000000) (hn : nm.size ≤ 1000000) (hl : l.size ≤ 1000000) (hk0 : 0 ≤ k) (hk1 : k ≤ 255)
    (m0 : -9223372036854775808 ≤ m) (m1 : m ≤ 9223372036854775807) (u0 : -9223372036854775808 ≤ u) (u1 : u ≤ 9223372036854775807) (g0 : -9223372036854775808 ≤ g) (g1 : g ≤ 9223372036854775807)
    (t0 : -9223372036854775808 ≤ t) (t1 : t ≤ 9223372036854775807) (z0 : -9223372036854775808 ≤ z) (z1 : z ≤ 9223372036854775807) :
    Calls Tryz.prog 85 #[.agg #[.string p, .string nm, .int .i64 m, .int .i64 u, .int .i64 g, .int .i64 t, .int .i64 z, .int .u8 k, .string l]] w fun e w' => ∃ v, e = .returned (.tuple #[v, .int .i64 (Hh.layC p nm l m u g t z k).2]) ∧ OB w' w.heap.size 5 v (Hh.layC p nm l m u g t z k).1 ∧ Below w.heap.size w w' := by
  obtain ⟨i0, hi, hz0, hz1, hz2⟩ := info_parts info_u8
  have ist := fun W => hist_any k W
  unfold Hh.layC
  by_cases hk : Hh.isT k = true
  · rw [if_pos hk]
    rw [hk] at ist
    unfold Hh.steps
    have y0 := Hh.byt_step (List.replicate 512 0, 0) 345 (Sf.putS p 155) (Sf.byt_rep 512) (Sf.byt_putS _ _)
    obtain ⟨⟨X0, E0⟩, h0⟩ : ∃ P, Hh.step (List.replicate 512 0, 0) 345 (Sf.putS p 155) = P := ⟨_, rfl⟩
    rw [h0] at y0 ⊢
    have y1 := Hh.byt_step (X0, E0) 0 (Sf.putS nm 100) y0 (Sf.byt_putS _ _)
    obtain ⟨⟨X1, E1⟩, h1⟩ : ∃ P, Hh.step (X0, E0) 0 (Sf.putS nm 100) = P := ⟨_, rfl⟩
    rw [h1] at y1 ⊢
    have y2 := Hh.byt_step (X1, E1) 157 (Sf.putS l 100) y1 (Sf.byt_putS _ _)
    obtain ⟨⟨X2, E2⟩, h2⟩ : ∃ P, Hh.step (X1, E1) 157 (Sf.putS l 100) = P := ⟨_, rfl⟩
    rw [h2] at y2 ⊢
    have y3 := Hh.byt_step (X2, E2) 100 (Nf.putS m 8) y2 (Nf.byt_putS _ _)
    obtain ⟨⟨X3, E3⟩, h3⟩ : ∃ P, Hh.step (X2, E2) 100 (Nf.putS m 8) = P := ⟨_, rfl⟩
    rw [h3] at y3 ⊢
    have y4 := Hh.byt_step (X3, E3) 108 (Nf.putS u 8) y3 (Nf.byt_putS _ _)
    obtain ⟨⟨X4, E4⟩, h4⟩ : ∃ P, Hh.step (X3, E3) 108 (Nf.putS u 8) = P := ⟨_, rfl⟩
    rw [h4] at y4 ⊢
    have y5 := Hh.byt_step (X4, E4) 116 (Nf.putS g 8) y4 (Nf.byt_putS _ _)
    obtain ⟨⟨X5, E5⟩, h5⟩ : ∃ P, Hh.step (X4, E4) 116 (Nf.putS g 8) = P := ⟨_, rfl⟩
    rw [h5] at y5 ⊢
    have y6 := Hh.byt_step (X5, E5) 124 (Nf.putS z 12) y5 (Nf.byt_putS _ _)
    obtain ⟨⟨X6, E6⟩, h6⟩ : ∃ P, Hh.step (X5, E5) 124 (Nf.putS z 12) = P := ⟨_, rfl⟩
    rw [h6] at y6 ⊢
    have y7 := Hh.byt_step (X6, E6) 136 (Nf.putS t 12) y6 (Nf.byt_putS _ _)
    obtain ⟨⟨X7, E7⟩, h7⟩ : ∃ P, Hh.step (X6, E6) 136 (Nf.putS t 12) = P := ⟨_, rfl⟩
    rw [h7] at y7 ⊢
    have y8 := Hh.byt_step (X7, E7) 329 (Nf.putS 0 8) y7 (Nf.byt_putS _ _)
    obtain ⟨⟨X8, E8⟩, h8⟩ : ∃ P, Hh.step (X7, E7) 329 (Nf.putS 0 8) = P := ⟨_, rfl⟩
    rw [h8] at y8 ⊢
    have y9 := Hh.byt_step (X8, E8) 337 (Nf.putS 0 8) y8 (Nf.byt_putS _ _)
    obtain ⟨⟨X9, E9⟩, h9⟩ : ∃ P, Hh.step (X8, E8) 337 (Nf.putS 0 8) = P := ⟨_, rfl⟩
    rw [h9] at y9 ⊢
    have bel := fun W => hbel_any p nm l m u g t z k W
    unfold Hh.fin
    generalize Hh.bel m u g z = bl at *
    have IST := Lib.hid ist; have BEL := Lib.hid bel; clear ist bel hk
    have H0 := Lib.hid h0; have H1 := Lib.hid h1; have H2 := Lib.hid h2; have H3 := Lib.hid h3; have H4 := Lib.hid h4; have H5 := Lib.hid h5; have H6 := Lib.hid h6; have H7 := Lib.hid h7; have H8 := Lib.hid h8; have H9 := Lib.hid h9; have Y9 := Lib.hid y9; clear y9 h0 h1 h2 h3 h4 h5 h6 h7 h8 h9 y0 y1 y2 y3 y4 y5 y6 y7 y8
    have cells : ∀ wa W, BX wa w.heap.size 64 #[.string p, .string nm, .int .i64 m, .int .i64 u, .int .i64 g, .int .i64 t, .int .i64 z, .int .u8 k, .string l] → Below (w.heap.size + 1) wa W → BX W w.heap.size 64 #[.string p, .string nm, .int .i64 m, .int .i64 u, .int .i64 g, .int .i64 t, .int .i64 z, .int .u8 k, .string l] := fun wa W h hb => h.below hb (by omega)
    have CELLS := Lib.hid cells; clear cells
    have start : ∀ w1, OBn w1 (w.heap.size + 1) 5 (.slice (some ⟨w.heap.size + 1, 0, none⟩) 512 512) 512 (List.replicate 512 0) → (w.alloc (.cells #[.string p, .string nm, .int .i64 m, .int .i64 u, .int .i64 g, .int .i64 t, .int .i64 z, .int .u8 k, .string l] 64)).grownBy w1 none → BX w1 w.heap.size 64 #[.string p, .string nm, .int .i64 m, .int .i64 u, .int .i64 g, .int .i64 t, .int .i64 z, .int .u8 k, .string l] ∧ w.heap.size + 1 < w1.heap.size ∧ Below w.heap.size w w1 ∧
        OBn (w1.alloc (.cells #[.slice (some ⟨w.heap.size + 1, 0, none⟩) 512 512, .int .i64 0] 159)) (w.heap.size + 1) 5 (.slice (some ⟨w.heap.size + 1, 0, none⟩) 512 512) 512 (List.replicate 512 0) := fun w1 ho hg => by
      have h1 := ho.at_
      have h2 : Below (w.heap.size + 1) (w.alloc (.cells #[.string p, .string nm, .int .i64 m, .int .i64 u, .int .i64 g, .int .i64 t, .int .i64 z, .int .u8 k, .string l] 64)) w1 := (Below.refl _ _).grown hg (by simp) (by intro k hk; simp at hk)
      refine ⟨(BX.new w _ _).below h2 (by omega), h1.2, ((Below.refl _ w).alloc (Nat.le_refl _) _).trans (h2.mono (by omega)), OBn.alloc ho _⟩
    have START := Lib.hid start; clear start
    by_cases hE : E9 = 0
    · subst hE
      rw [if_pos rfl]
      cases bl
      · rw [if_neg (by simp)]
        have put : ∀ W, OBn W (w.heap.size + 1) 5 (.slice (some ⟨w.heap.size + 1, 0, none⟩) 512 512) 512 (Hh.put (X9.set 156 k) 257 (Sf.nums ⟨#[117, 115, 116, 97, 114, 0, 48, 48]⟩)) → Calls Tryz.prog 121 #[.slice (some ⟨w.heap.size + 1, 0, none⟩) 512 512] W fun e w' => ∃ v, e = .returned (.tuple #[v, .int .i64 (Hs.putS (Hh.put (X9.set 156 k) 257 Hh.magic)).2]) ∧ OB w' W.heap.size 5 v (Hs.putS (Hh.put (X9.set 156 k) 257 Hh.magic)).1 ∧ Below W.heap.size W w' := fun W ho => by
          have e : Sf.nums ⟨#[117, 115, 116, 97, 114, 0, 48, 48]⟩ = Hh.magic := by decide +kernel
          rw [e] at ho
          have hyl := ho.len
          obtain ⟨A', c', he, hr, _, _⟩ := ho.ob.rb
          rw [hyl] at he hr
          cases he
          have hxl : 156 < X9.length := by
            have : (X9.set 156 k).length = X9.length := by simp
            simp [Hh.put, Hh.magic] at hyl
            omega
          refine hput_any _ 512 512 _ W hr (Hh.byt_put _ _ _ ?_ (Hh.byt_mem' (by decide)))
          rw [Hh.set_put _ _ hxl]
          exact Hh.byt_put _ _ _ Y9.out (Hh.byt_mem' (by simp [hk0, hk1]))
        have PUT := Lib.hid put; clear put
        go_enter Tryz.func85, Tryz.ntmps85
        go_wp2_with (first
          | (go_at_call 110; (with_reducible refine (IST.out _).mono ?_); rintro e w1 ⟨rfl, rfl⟩)
          | (at_make; refine wpList_make_full _ rfl _ _ 25 rfl (w.heap.size + 1) 5 i0 _ 1 Tryz.underlying25 hi hz0 hz1 .i64 .i64 _ _ 512 rfl rfl rfl rfl (by rw [hz2]; omega) (by unfold maxLen; omega) (by simp) ?_; intro w1 hown hgrow
             have hown' : OBn w1 (w.heap.size + 1) 5 (.slice (some ⟨w.heap.size + 1, 0, none⟩) 512 512) 512 (List.replicate 512 0) := OBn.made (by simpa using hown)
             obtain ⟨sx, slt, sbl, so⟩ := START.out w1 hown' hgrow
             have sw := BX.new w1 159 #[.slice (some ⟨w.heap.size + 1, 0, none⟩) 512 512, .int .i64 0]
             have sc := sx.alloc (.cells #[.slice (some ⟨w.heap.size + 1, 0, none⟩) 512 512, .int .i64 0] 159)
             have c0 : (w1.alloc (.cells #[.slice (some ⟨w.heap.size + 1, 0, none⟩) 512 512, .int .i64 0] 159)).cell? ⟨w.heap.size, 0, none⟩ = some (.string p) := sc.cell rfl
             have hne : ¬ w1.heap.size = w.heap.size + 1 := by omega
             have SX := Lib.hid sc; have SW := Lib.hid sw; have SO := Lib.hid so; have SBL := Lib.hid sbl; have SLT := Lib.hid slt; have HNE := Lib.hid hne; clear sx sw sc so sbl hown hgrow hown' hne slt)
          | (go_at_call 119; (with_reducible refine (wtext_at w1.heap.size (w.heap.size + 1) 512 (w.heap.size + 1) 345 155 345 155 rfl rfl (List.replicate 512 0) 0 p X0 E0 H0.out _ SW.out SO.out HNE.out (by have := SLT.out; omega) (by omega) (by omega) hp).mono ?_); rintro e v0 ⟨rfl, bxx0, obb0, bl0⟩
             have hB0 : Below (w.heap.size + 1) (w1.alloc (.cells #[.slice (some ⟨w.heap.size + 1, 0, none⟩) 512 512, .int .i64 0] 159)) v0 := bl0
             have c1 : v0.cell? ⟨w.heap.size, 1, none⟩ = some (.string nm) := (CELLS.out _ _ SX.out hB0).cell rfl
             have bx0 := Lib.hid bxx0; have ob0 := Lib.hid obb0; have HB0 := Lib.hid hB0; clear bxx0 obb0 bl0 hB0)
          | (go_at_call 119; (with_reducible refine (wtext_at w1.heap.size (w.heap.size + 1) 512 (w.heap.size + 1) 0 100 0 100 rfl rfl X0 E0 nm X1 E1 H1.out _ bx0.out ob0.out HNE.out (by have := SLT.out; omega) (by omega) (by omega) hn).mono ?_); rintro e v1 ⟨rfl, bxx1, obb1, bl1⟩
             have hB1 : Below (w.heap.size + 1) (w1.alloc (.cells #[.slice (some ⟨w.heap.size + 1, 0, none⟩) 512 512, .int .i64 0] 159)) v1 := HB0.out.trans bl1
             have c2 : v1.cell? ⟨w.heap.size, 8, none⟩ = some (.string l) := (CELLS.out _ _ SX.out hB1).cell rfl
             have bx1 := Lib.hid bxx1; have ob1 := Lib.hid obb1; have HB1 := Lib.hid hB1; clear bxx1 obb1 bl1 hB1)
          | (go_at_call 119; (with_reducible refine (wtext_at w1.heap.size (w.heap.size + 1) 512 (w.heap.size + 1) 157 100 157 100 rfl rfl X1 E1 l X2 E2 H2.out _ bx1.out ob1.out HNE.out (by have := SLT.out; omega) (by omega) (by omega) hl).mono ?_); rintro e v2 ⟨rfl, bxx2, obb2, bl2⟩
             have hB2 : Below (w.heap.size + 1) (w1.alloc (.cells #[.slice (some ⟨w.heap.size + 1, 0, none⟩) 512 512, .int .i64 0] 159)) v2 := HB1.out.trans bl2
             have c3 : v2.cell? ⟨w.heap.size, 2, none⟩ = some (.int .i64 m) := (CELLS.out _ _ SX.out hB2).cell rfl
             have bx2 := Lib.hid bxx2; have ob2 := Lib.hid obb2; have HB2 := Lib.hid hB2; clear bxx2 obb2 bl2 hB2)
          | (go_at_call 120; (with_reducible refine (wnum_at w1.heap.size (w.heap.size + 1) 512 (w.heap.size + 1) 100 8 100 8 rfl rfl X2 E2 m X3 E3 H3.out _ bx2.out ob2.out HNE.out (by have := SLT.out; omega) (by omega) (by omega) m0 m1).mono ?_); rintro e v3 ⟨rfl, bxx3, obb3, bl3⟩
             have hB3 : Below (w.heap.size + 1) (w1.alloc (.cells #[.slice (some ⟨w.heap.size + 1, 0, none⟩) 512 512, .int .i64 0] 159)) v3 := HB2.out.trans bl3
             have c4 : v3.cell? ⟨w.heap.size, 3, none⟩ = some (.int .i64 u) := (CELLS.out _ _ SX.out hB3).cell rfl
             have bx3 := Lib.hid bxx3; have ob3 := Lib.hid obb3; have HB3 := Lib.hid hB3; clear bxx3 obb3 bl3 hB3)
          | (go_at_call 120; (with_reducible refine (wnum_at w1.heap.size (w.heap.size + 1) 512 (w.heap.size + 1) 108 8 108 8 rfl rfl X3 E3 u X4 E4 H4.out _ bx3.out ob3.out HNE.out (by have := SLT.out; omega) (by omega) (by omega) u0 u1).mono ?_); rintro e v4 ⟨rfl, bxx4, obb4, bl4⟩
             have hB4 : Below (w.heap.size + 1) (w1.alloc (.cells #[.slice (some ⟨w.heap.size + 1, 0, none⟩) 512 512, .int .i64 0] 159)) v4 := HB3.out.trans bl4
             have c5 : v4.cell? ⟨w.heap.size, 4, none⟩ = some (.int .i64 g) := (CELLS.out _ _ SX.out hB4).cell rfl
             have bx4 := Lib.hid bxx4; have ob4 := Lib.hid obb4; have HB4 := Lib.hid hB4; clear bxx4 obb4 bl4 hB4)
          | (go_at_call 120; (with_reducible refine (wnum_at w1.heap.size (w.heap.size + 1) 512 (w.heap.size + 1) 116 8 116 8 rfl rfl X4 E4 g X5 E5 H5.out _ bx4.out ob4.out HNE.out (by have := SLT.out; omega) (by omega) (by omega) g0 g1).mono ?_); rintro e v5 ⟨rfl, bxx5, obb5, bl5⟩
             have hB5 : Below (w.heap.size + 1) (w1.alloc (.cells #[.slice (some ⟨w.heap.size + 1, 0, none⟩) 512 512, .int .i64 0] 159)) v5 := HB4.out.trans bl5
             have c6 : v5.cell? ⟨w.heap.size, 6, none⟩ = some (.int .i64 z) := (CELLS.out _ _ SX.out hB5).cell rfl
             have bx5 := Lib.hid bxx5; have ob5 := Lib.hid obb5; have HB5 := Lib.hid hB5; clear bxx5 obb5 bl5 hB5)
          | (go_at_call 120; (with_reducible refine (wnum_at w1.heap.size (w.heap.size + 1) 512 (w.heap.size + 1) 124 12 124 12 rfl rfl X5 E5 z X6 E6 H6.out _ bx5.out ob5.out HNE.out (by have := SLT.out; omega) (by omega) (by omega) z0 z1).mono ?_); rintro e v6 ⟨rfl, bxx6, obb6, bl6⟩
             have hB6 : Below (w.heap.size + 1) (w1.alloc (.cells #[.slice (some ⟨w.heap.size + 1, 0, none⟩) 512 512, .int .i64 0] 159)) v6 := HB5.out.trans bl6
             have c7 : v6.cell? ⟨w.heap.size, 5, none⟩ = some (.int .i64 t) := (CELLS.out _ _ SX.out hB6).cell rfl
             have bx6 := Lib.hid bxx6; have ob6 := Lib.hid obb6; have HB6 := Lib.hid hB6; clear bxx6 obb6 bl6 hB6)
          | (go_at_call 120; (with_reducible refine (wnum_at w1.heap.size (w.heap.size + 1) 512 (w.heap.size + 1) 136 12 136 12 rfl rfl X6 E6 t X7 E7 H7.out _ bx6.out ob6.out HNE.out (by have := SLT.out; omega) (by omega) (by omega) t0 t1).mono ?_); rintro e v7 ⟨rfl, bxx7, obb7, bl7⟩
             have hB7 : Below (w.heap.size + 1) (w1.alloc (.cells #[.slice (some ⟨w.heap.size + 1, 0, none⟩) 512 512, .int .i64 0] 159)) v7 := HB6.out.trans bl7
             have bx7 := Lib.hid bxx7; have ob7 := Lib.hid obb7; have HB7 := Lib.hid hB7; clear bxx7 obb7 bl7 hB7)
          | (go_at_call 120; (with_reducible refine (wnum_at w1.heap.size (w.heap.size + 1) 512 (w.heap.size + 1) 329 8 329 8 rfl rfl X7 E7 0 X8 E8 H8.out _ bx7.out ob7.out HNE.out (by have := SLT.out; omega) (by omega) (by omega) (by omega) (by omega)).mono ?_); rintro e v8 ⟨rfl, bxx8, obb8, bl8⟩
             have hB8 : Below (w.heap.size + 1) (w1.alloc (.cells #[.slice (some ⟨w.heap.size + 1, 0, none⟩) 512 512, .int .i64 0] 159)) v8 := HB7.out.trans bl8
             have bx8 := Lib.hid bxx8; have ob8 := Lib.hid obb8; have HB8 := Lib.hid hB8; clear bxx8 obb8 bl8 hB8)
          | (go_at_call 120; (with_reducible refine (wnum_at w1.heap.size (w.heap.size + 1) 512 (w.heap.size + 1) 337 8 337 8 rfl rfl X8 E8 0 X9 0 H9.out _ bx8.out ob8.out HNE.out (by have := SLT.out; omega) (by omega) (by omega) (by omega) (by omega)).mono ?_); rintro e v9 ⟨rfl, bxx9, obb9, bl9⟩
             have hB9 : Below (w.heap.size + 1) (w1.alloc (.cells #[.slice (some ⟨w.heap.size + 1, 0, none⟩) 512 512, .int .i64 0] 159)) v9 := HB8.out.trans bl9
             have c10 : v9.cell? ⟨w.heap.size, 7, none⟩ = some (.int .u8 k) := (CELLS.out _ _ SX.out hB9).cell rfl
             have cz : v9.cell? ⟨w1.heap.size, 1, none⟩ = some (.int .i64 0) := bxx9.cell rfl
             have cy : v9.cell? ⟨w1.heap.size, 0, none⟩ = some (.slice (some ⟨w.heap.size + 1, 0, none⟩) 512 512) := bxx9.cell rfl
             have cc0 : v9.cell? ⟨w.heap.size, 0, none⟩ = some (.string p) := (CELLS.out _ _ SX.out hB9).cell rfl
             have cc1 : v9.cell? ⟨w.heap.size, 1, none⟩ = some (.string nm) := (CELLS.out _ _ SX.out hB9).cell rfl
             have cc2 : v9.cell? ⟨w.heap.size, 2, none⟩ = some (.int .i64 m) := (CELLS.out _ _ SX.out hB9).cell rfl
             have cc3 : v9.cell? ⟨w.heap.size, 3, none⟩ = some (.int .i64 u) := (CELLS.out _ _ SX.out hB9).cell rfl
             have cc4 : v9.cell? ⟨w.heap.size, 4, none⟩ = some (.int .i64 g) := (CELLS.out _ _ SX.out hB9).cell rfl
             have cc5 : v9.cell? ⟨w.heap.size, 5, none⟩ = some (.int .i64 t) := (CELLS.out _ _ SX.out hB9).cell rfl
             have cc6 : v9.cell? ⟨w.heap.size, 6, none⟩ = some (.int .i64 z) := (CELLS.out _ _ SX.out hB9).cell rfl
             have cc8 : v9.cell? ⟨w.heap.size, 8, none⟩ = some (.string l) := (CELLS.out _ _ SX.out hB9).cell rfl
             have bx9 := Lib.hid bxx9; have ob9 := Lib.hid obb9; have HB9 := Lib.hid hB9; clear bxx9 obb9 bl9 hB9)
          | (go_at_call 111; (with_reducible refine (BEL.out _).mono ?_); rintro e v10 ⟨rfl, bl10⟩
             have d0 : v10.cell? ⟨w1.heap.size, 0, none⟩ = some (.slice (some ⟨w.heap.size + 1, 0, none⟩) 512 512) := (bx9.out.later bl10).cell rfl
             have d1 : v10.cell? ⟨w.heap.size, 7, none⟩ = some (.int .u8 k) := ((CELLS.out _ _ SX.out HB9.out).later bl10).cell rfl
             have oz := ob9.out.later bl10
             have d2 := oz.cell 156 (by omega)
             have d3 := oz.free 156
             obtain ⟨v11, hrun, ho11, hot11⟩ := (oz.stored 156 k).copiedAt (off := 257) ⟨#[117, 115, 116, 97, 114, 0, 48, 48]⟩ (by decide)
             have hq1 : ∀ ty : TypeId, (Builtin.copy_ #[25, 9] ty #[.slice (some ⟨w.heap.size + 1, 257, none⟩) 255 255, .string ⟨#[117, 115, 116, 97, 114, 0, 48, 48]⟩]).run Tryz.prog (v10.setCell ⟨w.heap.size + 1, 156, none⟩ (.int .u8 k)) = .ok (goInt 8) v11 := hrun
             have d4 : v11.cell? ⟨w1.heap.size, 0, none⟩ = some (.slice (some ⟨w.heap.size + 1, 0, none⟩) 512 512) := ((((bx9.out.later bl10).other HNE.out _).oth hot11 HNE.out)).cell rfl
             have hne := HNE.out
             have HR := Lib.hid hq1; have BL10 := Lib.hid bl10; have OT := Lib.hid hot11; have O11 := Lib.hid ho11; clear hrun hq1 bl10 hot11 ho11 oz)
          | (refine Lib.wpList_copy_run _ rfl _ _ 25 9 rfl (.slice (some ⟨w.heap.size + 1, 257, none⟩) 255 255) (.string ⟨#[117, 115, 116, 97, 114, 0, 48, 48]⟩) rfl rfl (HR.out _) ?_)
          | (go_at_call 121; (with_reducible refine (PUT.out _ O11.out).mono ?_); rintro e v12 ⟨vr, rfl, ho12, bl12⟩))
        go_ret2
        have z1 := SLT.out
        have z2 := SW.out.lt
        have z3 := HB9.out.size
        have z4 := BL10.out.size
        have z5 := OT.out.2.2.2.1
        have z6 : v10.heap.size = (v10.setCell ⟨w.heap.size + 1, 156, none⟩ (.int .u8 k)).heap.size := by simp [World.setCell]
        refine ⟨_, rfl, ho12.base (by omega), ?_⟩
        exact (((((SBL.out.alloc (by have := SLT.out; omega) _).trans (HB9.out.mono (by omega))).trans (BL10.out.mono (by omega))).setCell (p := ⟨w.heap.size + 1, 156, none⟩) (Nat.le_succ _) _).trans (OT.out.below (by omega) (by omega))).trans (bl12.mono (by omega))
      · rw [if_pos rfl]
        go_enter Tryz.func85, Tryz.ntmps85
        go_wp2_with (first
          | (go_at_call 110; (with_reducible refine (IST.out _).mono ?_); rintro e w1 ⟨rfl, rfl⟩)
          | (at_make; refine wpList_make_full _ rfl _ _ 25 rfl (w.heap.size + 1) 5 i0 _ 1 Tryz.underlying25 hi hz0 hz1 .i64 .i64 _ _ 512 rfl rfl rfl rfl (by rw [hz2]; omega) (by unfold maxLen; omega) (by simp) ?_; intro w1 hown hgrow
             have hown' : OBn w1 (w.heap.size + 1) 5 (.slice (some ⟨w.heap.size + 1, 0, none⟩) 512 512) 512 (List.replicate 512 0) := OBn.made (by simpa using hown)
             obtain ⟨sx, slt, sbl, so⟩ := START.out w1 hown' hgrow
             have sw := BX.new w1 159 #[.slice (some ⟨w.heap.size + 1, 0, none⟩) 512 512, .int .i64 0]
             have sc := sx.alloc (.cells #[.slice (some ⟨w.heap.size + 1, 0, none⟩) 512 512, .int .i64 0] 159)
             have c0 : (w1.alloc (.cells #[.slice (some ⟨w.heap.size + 1, 0, none⟩) 512 512, .int .i64 0] 159)).cell? ⟨w.heap.size, 0, none⟩ = some (.string p) := sc.cell rfl
             have hne : ¬ w1.heap.size = w.heap.size + 1 := by omega
             have SX := Lib.hid sc; have SW := Lib.hid sw; have SO := Lib.hid so; have SBL := Lib.hid sbl; have SLT := Lib.hid slt; have HNE := Lib.hid hne; clear sx sw sc so sbl hown hgrow hown' hne slt)
          | (go_at_call 119; (with_reducible refine (wtext_at w1.heap.size (w.heap.size + 1) 512 (w.heap.size + 1) 345 155 345 155 rfl rfl (List.replicate 512 0) 0 p X0 E0 H0.out _ SW.out SO.out HNE.out (by have := SLT.out; omega) (by omega) (by omega) hp).mono ?_); rintro e v0 ⟨rfl, bxx0, obb0, bl0⟩
             have hB0 : Below (w.heap.size + 1) (w1.alloc (.cells #[.slice (some ⟨w.heap.size + 1, 0, none⟩) 512 512, .int .i64 0] 159)) v0 := bl0
             have c1 : v0.cell? ⟨w.heap.size, 1, none⟩ = some (.string nm) := (CELLS.out _ _ SX.out hB0).cell rfl
             have bx0 := Lib.hid bxx0; have ob0 := Lib.hid obb0; have HB0 := Lib.hid hB0; clear bxx0 obb0 bl0 hB0)
          | (go_at_call 119; (with_reducible refine (wtext_at w1.heap.size (w.heap.size + 1) 512 (w.heap.size + 1) 0 100 0 100 rfl rfl X0 E0 nm X1 E1 H1.out _ bx0.out ob0.out HNE.out (by have := SLT.out; omega) (by omega) (by omega) hn).mono ?_); rintro e v1 ⟨rfl, bxx1, obb1, bl1⟩
             have hB1 : Below (w.heap.size + 1) (w1.alloc (.cells #[.slice (some ⟨w.heap.size + 1, 0, none⟩) 512 512, .int .i64 0] 159)) v1 := HB0.out.trans bl1
             have c2 : v1.cell? ⟨w.heap.size, 8, none⟩ = some (.string l) := (CELLS.out _ _ SX.out hB1).cell rfl
             have bx1 := Lib.hid bxx1; have ob1 := Lib.hid obb1; have HB1 := Lib.hid hB1; clear bxx1 obb1 bl1 hB1)
          | (go_at_call 119; (with_reducible refine (wtext_at w1.heap.size (w.heap.size + 1) 512 (w.heap.size + 1) 157 100 157 100 rfl rfl X1 E1 l X2 E2 H2.out _ bx1.out ob1.out HNE.out (by have := SLT.out; omega) (by omega) (by omega) hl).mono ?_); rintro e v2 ⟨rfl, bxx2, obb2, bl2⟩
             have hB2 : Below (w.heap.size + 1) (w1.alloc (.cells #[.slice (some ⟨w.heap.size + 1, 0, none⟩) 512 512, .int .i64 0] 159)) v2 := HB1.out.trans bl2
             have c3 : v2.cell? ⟨w.heap.size, 2, none⟩ = some (.int .i64 m) := (CELLS.out _ _ SX.out hB2).cell rfl
             have bx2 := Lib.hid bxx2; have ob2 := Lib.hid obb2; have HB2 := Lib.hid hB2; clear bxx2 obb2 bl2 hB2)
          | (go_at_call 120; (with_reducible refine (wnum_at w1.heap.size (w.heap.size + 1) 512 (w.heap.size + 1) 100 8 100 8 rfl rfl X2 E2 m X3 E3 H3.out _ bx2.out ob2.out HNE.out (by have := SLT.out; omega) (by omega) (by omega) m0 m1).mono ?_); rintro e v3 ⟨rfl, bxx3, obb3, bl3⟩
             have hB3 : Below (w.heap.size + 1) (w1.alloc (.cells #[.slice (some ⟨w.heap.size + 1, 0, none⟩) 512 512, .int .i64 0] 159)) v3 := HB2.out.trans bl3
             have c4 : v3.cell? ⟨w.heap.size, 3, none⟩ = some (.int .i64 u) := (CELLS.out _ _ SX.out hB3).cell rfl
             have bx3 := Lib.hid bxx3; have ob3 := Lib.hid obb3; have HB3 := Lib.hid hB3; clear bxx3 obb3 bl3 hB3)
          | (go_at_call 120; (with_reducible refine (wnum_at w1.heap.size (w.heap.size + 1) 512 (w.heap.size + 1) 108 8 108 8 rfl rfl X3 E3 u X4 E4 H4.out _ bx3.out ob3.out HNE.out (by have := SLT.out; omega) (by omega) (by omega) u0 u1).mono ?_); rintro e v4 ⟨rfl, bxx4, obb4, bl4⟩
             have hB4 : Below (w.heap.size + 1) (w1.alloc (.cells #[.slice (some ⟨w.heap.size + 1, 0, none⟩) 512 512, .int .i64 0] 159)) v4 := HB3.out.trans bl4
             have c5 : v4.cell? ⟨w.heap.size, 4, none⟩ = some (.int .i64 g) := (CELLS.out _ _ SX.out hB4).cell rfl
             have bx4 := Lib.hid bxx4; have ob4 := Lib.hid obb4; have HB4 := Lib.hid hB4; clear bxx4 obb4 bl4 hB4)
          | (go_at_call 120; (with_reducible refine (wnum_at w1.heap.size (w.heap.size + 1) 512 (w.heap.size + 1) 116 8 116 8 rfl rfl X4 E4 g X5 E5 H5.out _ bx4.out ob4.out HNE.out (by have := SLT.out; omega) (by omega) (by omega) g0 g1).mono ?_); rintro e v5 ⟨rfl, bxx5, obb5, bl5⟩
             have hB5 : Below (w.heap.size + 1) (w1.alloc (.cells #[.slice (some ⟨w.heap.size + 1, 0, none⟩) 512 512, .int .i64 0] 159)) v5 := HB4.out.trans bl5
             have c6 : v5.cell? ⟨w.heap.size, 6, none⟩ = some (.int .i64 z) := (CELLS.out _ _ SX.out hB5).cell rfl
             have bx5 := Lib.hid bxx5; have ob5 := Lib.hid obb5; have HB5 := Lib.hid hB5; clear bxx5 obb5 bl5 hB5)
          | (go_at_call 120; (with_reducible refine (wnum_at w1.heap.size (w.heap.size + 1) 512 (w.heap.size + 1) 124 12 124 12 rfl rfl X5 E5 z X6 E6 H6.out _ bx5.out ob5.out HNE.out (by have := SLT.out; omega) (by omega) (by omega) z0 z1).mono ?_); rintro e v6 ⟨rfl, bxx6, obb6, bl6⟩
             have hB6 : Below (w.heap.size + 1) (w1.alloc (.cells #[.slice (some ⟨w.heap.size + 1, 0, none⟩) 512 512, .int .i64 0] 159)) v6 := HB5.out.trans bl6
             have c7 : v6.cell? ⟨w.heap.size, 5, none⟩ = some (.int .i64 t) := (CELLS.out _ _ SX.out hB6).cell rfl
             have bx6 := Lib.hid bxx6; have ob6 := Lib.hid obb6; have HB6 := Lib.hid hB6; clear bxx6 obb6 bl6 hB6)
          | (go_at_call 120; (with_reducible refine (wnum_at w1.heap.size (w.heap.size + 1) 512 (w.heap.size + 1) 136 12 136 12 rfl rfl X6 E6 t X7 E7 H7.out _ bx6.out ob6.out HNE.out (by have := SLT.out; omega) (by omega) (by omega) t0 t1).mono ?_); rintro e v7 ⟨rfl, bxx7, obb7, bl7⟩
             have hB7 : Below (w.heap.size + 1) (w1.alloc (.cells #[.slice (some ⟨w.heap.size + 1, 0, none⟩) 512 512, .int .i64 0] 159)) v7 := HB6.out.trans bl7
             have bx7 := Lib.hid bxx7; have ob7 := Lib.hid obb7; have HB7 := Lib.hid hB7; clear bxx7 obb7 bl7 hB7)
          | (go_at_call 120; (with_reducible refine (wnum_at w1.heap.size (w.heap.size + 1) 512 (w.heap.size + 1) 329 8 329 8 rfl rfl X7 E7 0 X8 E8 H8.out _ bx7.out ob7.out HNE.out (by have := SLT.out; omega) (by omega) (by omega) (by omega) (by omega)).mono ?_); rintro e v8 ⟨rfl, bxx8, obb8, bl8⟩
             have hB8 : Below (w.heap.size + 1) (w1.alloc (.cells #[.slice (some ⟨w.heap.size + 1, 0, none⟩) 512 512, .int .i64 0] 159)) v8 := HB7.out.trans bl8
             have bx8 := Lib.hid bxx8; have ob8 := Lib.hid obb8; have HB8 := Lib.hid hB8; clear bxx8 obb8 bl8 hB8)
          | (go_at_call 120; (with_reducible refine (wnum_at w1.heap.size (w.heap.size + 1) 512 (w.heap.size + 1) 337 8 337 8 rfl rfl X8 E8 0 X9 0 H9.out _ bx8.out ob8.out HNE.out (by have := SLT.out; omega) (by omega) (by omega) (by omega) (by omega)).mono ?_); rintro e v9 ⟨rfl, bxx9, obb9, bl9⟩
             have hB9 : Below (w.heap.size + 1) (w1.alloc (.cells #[.slice (some ⟨w.heap.size + 1, 0, none⟩) 512 512, .int .i64 0] 159)) v9 := HB8.out.trans bl9
             have c10 : v9.cell? ⟨w.heap.size, 7, none⟩ = some (.int .u8 k) := (CELLS.out _ _ SX.out hB9).cell rfl
             have cz : v9.cell? ⟨w1.heap.size, 1, none⟩ = some (.int .i64 0) := bxx9.cell rfl
             have cy : v9.cell? ⟨w1.heap.size, 0, none⟩ = some (.slice (some ⟨w.heap.size + 1, 0, none⟩) 512 512) := bxx9.cell rfl
             have cc0 : v9.cell? ⟨w.heap.size, 0, none⟩ = some (.string p) := (CELLS.out _ _ SX.out hB9).cell rfl
             have cc1 : v9.cell? ⟨w.heap.size, 1, none⟩ = some (.string nm) := (CELLS.out _ _ SX.out hB9).cell rfl
             have cc2 : v9.cell? ⟨w.heap.size, 2, none⟩ = some (.int .i64 m) := (CELLS.out _ _ SX.out hB9).cell rfl
             have cc3 : v9.cell? ⟨w.heap.size, 3, none⟩ = some (.int .i64 u) := (CELLS.out _ _ SX.out hB9).cell rfl
             have cc4 : v9.cell? ⟨w.heap.size, 4, none⟩ = some (.int .i64 g) := (CELLS.out _ _ SX.out hB9).cell rfl
             have cc5 : v9.cell? ⟨w.heap.size, 5, none⟩ = some (.int .i64 t) := (CELLS.out _ _ SX.out hB9).cell rfl
             have cc6 : v9.cell? ⟨w.heap.size, 6, none⟩ = some (.int .i64 z) := (CELLS.out _ _ SX.out hB9).cell rfl
             have cc8 : v9.cell? ⟨w.heap.size, 8, none⟩ = some (.string l) := (CELLS.out _ _ SX.out hB9).cell rfl
             have bx9 := Lib.hid bxx9; have ob9 := Lib.hid obb9; have HB9 := Lib.hid hB9; clear bxx9 obb9 bl9 hB9)
          | (go_at_call 111; (with_reducible refine (BEL.out _).mono ?_); rintro e v10 ⟨rfl, bl10⟩))
        go_ret2
        exact ⟨_, rfl, OB.nil _ _ _, ((SBL.out.alloc (by have := SLT.out; omega) _).trans (HB9.out.mono (by omega))).trans (bl10.mono (by have := HB9.out.size; have := SLT.out; have := SW.out.lt; omega))⟩
    · rw [if_neg hE]
      have hE2 : (E9 != 0) = true := by simp [hE]
      clear hE
      go_enter Tryz.func85, Tryz.ntmps85
      go_wp2_with (first
        | (go_at_call 110; (with_reducible refine (IST.out _).mono ?_); rintro e w1 ⟨rfl, rfl⟩)
        | (at_make; refine wpList_make_full _ rfl _ _ 25 rfl (w.heap.size + 1) 5 i0 _ 1 Tryz.underlying25 hi hz0 hz1 .i64 .i64 _ _ 512 rfl rfl rfl rfl (by rw [hz2]; omega) (by unfold maxLen; omega) (by simp) ?_; intro w1 hown hgrow
           have hown' : OBn w1 (w.heap.size + 1) 5 (.slice (some ⟨w.heap.size + 1, 0, none⟩) 512 512) 512 (List.replicate 512 0) := OBn.made (by simpa using hown)
           obtain ⟨sx, slt, sbl, so⟩ := START.out w1 hown' hgrow
           have sw := BX.new w1 159 #[.slice (some ⟨w.heap.size + 1, 0, none⟩) 512 512, .int .i64 0]
           have sc := sx.alloc (.cells #[.slice (some ⟨w.heap.size + 1, 0, none⟩) 512 512, .int .i64 0] 159)
           have c0 : (w1.alloc (.cells #[.slice (some ⟨w.heap.size + 1, 0, none⟩) 512 512, .int .i64 0] 159)).cell? ⟨w.heap.size, 0, none⟩ = some (.string p) := sc.cell rfl
           have hne : ¬ w1.heap.size = w.heap.size + 1 := by omega
           have SX := Lib.hid sc; have SW := Lib.hid sw; have SO := Lib.hid so; have SBL := Lib.hid sbl; have SLT := Lib.hid slt; have HNE := Lib.hid hne; clear sx sw sc so sbl hown hgrow hown' hne slt)
        | (go_at_call 119; (with_reducible refine (wtext_at w1.heap.size (w.heap.size + 1) 512 (w.heap.size + 1) 345 155 345 155 rfl rfl (List.replicate 512 0) 0 p X0 E0 H0.out _ SW.out SO.out HNE.out (by have := SLT.out; omega) (by omega) (by omega) hp).mono ?_); rintro e v0 ⟨rfl, bxx0, obb0, bl0⟩
           have hB0 : Below (w.heap.size + 1) (w1.alloc (.cells #[.slice (some ⟨w.heap.size + 1, 0, none⟩) 512 512, .int .i64 0] 159)) v0 := bl0
           have c1 : v0.cell? ⟨w.heap.size, 1, none⟩ = some (.string nm) := (CELLS.out _ _ SX.out hB0).cell rfl
           have bx0 := Lib.hid bxx0; have ob0 := Lib.hid obb0; have HB0 := Lib.hid hB0; clear bxx0 obb0 bl0 hB0)
        | (go_at_call 119; (with_reducible refine (wtext_at w1.heap.size (w.heap.size + 1) 512 (w.heap.size + 1) 0 100 0 100 rfl rfl X0 E0 nm X1 E1 H1.out _ bx0.out ob0.out HNE.out (by have := SLT.out; omega) (by omega) (by omega) hn).mono ?_); rintro e v1 ⟨rfl, bxx1, obb1, bl1⟩
           have hB1 : Below (w.heap.size + 1) (w1.alloc (.cells #[.slice (some ⟨w.heap.size + 1, 0, none⟩) 512 512, .int .i64 0] 159)) v1 := HB0.out.trans bl1
           have c2 : v1.cell? ⟨w.heap.size, 8, none⟩ = some (.string l) := (CELLS.out _ _ SX.out hB1).cell rfl
           have bx1 := Lib.hid bxx1; have ob1 := Lib.hid obb1; have HB1 := Lib.hid hB1; clear bxx1 obb1 bl1 hB1)
        | (go_at_call 119; (with_reducible refine (wtext_at w1.heap.size (w.heap.size + 1) 512 (w.heap.size + 1) 157 100 157 100 rfl rfl X1 E1 l X2 E2 H2.out _ bx1.out ob1.out HNE.out (by have := SLT.out; omega) (by omega) (by omega) hl).mono ?_); rintro e v2 ⟨rfl, bxx2, obb2, bl2⟩
           have hB2 : Below (w.heap.size + 1) (w1.alloc (.cells #[.slice (some ⟨w.heap.size + 1, 0, none⟩) 512 512, .int .i64 0] 159)) v2 := HB1.out.trans bl2
           have c3 : v2.cell? ⟨w.heap.size, 2, none⟩ = some (.int .i64 m) := (CELLS.out _ _ SX.out hB2).cell rfl
           have bx2 := Lib.hid bxx2; have ob2 := Lib.hid obb2; have HB2 := Lib.hid hB2; clear bxx2 obb2 bl2 hB2)
        | (go_at_call 120; (with_reducible refine (wnum_at w1.heap.size (w.heap.size + 1) 512 (w.heap.size + 1) 100 8 100 8 rfl rfl X2 E2 m X3 E3 H3.out _ bx2.out ob2.out HNE.out (by have := SLT.out; omega) (by omega) (by omega) m0 m1).mono ?_); rintro e v3 ⟨rfl, bxx3, obb3, bl3⟩
           have hB3 : Below (w.heap.size + 1) (w1.alloc (.cells #[.slice (some ⟨w.heap.size + 1, 0, none⟩) 512 512, .int .i64 0] 159)) v3 := HB2.out.trans bl3
           have c4 : v3.cell? ⟨w.heap.size, 3, none⟩ = some (.int .i64 u) := (CELLS.out _ _ SX.out hB3).cell rfl
           have bx3 := Lib.hid bxx3; have ob3 := Lib.hid obb3; have HB3 := Lib.hid hB3; clear bxx3 obb3 bl3 hB3)
        | (go_at_call 120; (with_reducible refine (wnum_at w1.heap.size (w.heap.size + 1) 512 (w.heap.size + 1) 108 8 108 8 rfl rfl X3 E3 u X4 E4 H4.out _ bx3.out ob3.out HNE.out (by have := SLT.out; omega) (by omega) (by omega) u0 u1).mono ?_); rintro e v4 ⟨rfl, bxx4, obb4, bl4⟩
           have hB4 : Below (w.heap.size + 1) (w1.alloc (.cells #[.slice (some ⟨w.heap.size + 1, 0, none⟩) 512 512, .int .i64 0] 159)) v4 := HB3.out.trans bl4
           have c5 : v4.cell? ⟨w.heap.size, 4, none⟩ = some (.int .i64 g) := (CELLS.out _ _ SX.out hB4).cell rfl
           have bx4 := Lib.hid bxx4; have ob4 := Lib.hid obb4; have HB4 := Lib.hid hB4; clear bxx4 obb4 bl4 hB4)
        | (go_at_call 120; (with_reducible refine (wnum_at w1.heap.size (w.heap.size + 1) 512 (w.heap.size + 1) 116 8 116 8 rfl rfl X4 E4 g X5 E5 H5.out _ bx4.out ob4.out HNE.out (by have := SLT.out; omega) (by omega) (by omega) g0 g1).mono ?_); rintro e v5 ⟨rfl, bxx5, obb5, bl5⟩
           have hB5 : Below (w.heap.size + 1) (w1.alloc (.cells #[.slice (some ⟨w.heap.size + 1, 0, none⟩) 512 512, .int .i64 0] 159)) v5 := HB4.out.trans bl5
           have c6 : v5.cell? ⟨w.heap.size, 6, none⟩ = some (.int .i64 z) := (CELLS.out _ _ SX.out hB5).cell rfl
           have bx5 := Lib.hid bxx5; have ob5 := Lib.hid obb5; have HB5 := Lib.hid hB5; clear bxx5 obb5 bl5 hB5)
        | (go_at_call 120; (with_reducible refine (wnum_at w1.heap.size (w.heap.size + 1) 512 (w.heap.size + 1) 124 12 124 12 rfl rfl X5 E5 z X6 E6 H6.out _ bx5.out ob5.out HNE.out (by have := SLT.out; omega) (by omega) (by omega) z0 z1).mono ?_); rintro e v6 ⟨rfl, bxx6, obb6, bl6⟩
           have hB6 : Below (w.heap.size + 1) (w1.alloc (.cells #[.slice (some ⟨w.heap.size + 1, 0, none⟩) 512 512, .int .i64 0] 159)) v6 := HB5.out.trans bl6
           have c7 : v6.cell? ⟨w.heap.size, 5, none⟩ = some (.int .i64 t) := (CELLS.out _ _ SX.out hB6).cell rfl
           have bx6 := Lib.hid bxx6; have ob6 := Lib.hid obb6; have HB6 := Lib.hid hB6; clear bxx6 obb6 bl6 hB6)
        | (go_at_call 120; (with_reducible refine (wnum_at w1.heap.size (w.heap.size + 1) 512 (w.heap.size + 1) 136 12 136 12 rfl rfl X6 E6 t X7 E7 H7.out _ bx6.out ob6.out HNE.out (by have := SLT.out; omega) (by omega) (by omega) t0 t1).mono ?_); rintro e v7 ⟨rfl, bxx7, obb7, bl7⟩
           have hB7 : Below (w.heap.size + 1) (w1.alloc (.cells #[.slice (some ⟨w.heap.size + 1, 0, none⟩) 512 512, .int .i64 0] 159)) v7 := HB6.out.trans bl7
           have bx7 := Lib.hid bxx7; have ob7 := Lib.hid obb7; have HB7 := Lib.hid hB7; clear bxx7 obb7 bl7 hB7)
        | (go_at_call 120; (with_reducible refine (wnum_at w1.heap.size (w.heap.size + 1) 512 (w.heap.size + 1) 329 8 329 8 rfl rfl X7 E7 0 X8 E8 H8.out _ bx7.out ob7.out HNE.out (by have := SLT.out; omega) (by omega) (by omega) (by omega) (by omega)).mono ?_); rintro e v8 ⟨rfl, bxx8, obb8, bl8⟩
           have hB8 : Below (w.heap.size + 1) (w1.alloc (.cells #[.slice (some ⟨w.heap.size + 1, 0, none⟩) 512 512, .int .i64 0] 159)) v8 := HB7.out.trans bl8
           have bx8 := Lib.hid bxx8; have ob8 := Lib.hid obb8; have HB8 := Lib.hid hB8; clear bxx8 obb8 bl8 hB8)
        | (go_at_call 120; (with_reducible refine (wnum_at w1.heap.size (w.heap.size + 1) 512 (w.heap.size + 1) 337 8 337 8 rfl rfl X8 E8 0 X9 E9 H9.out _ bx8.out ob8.out HNE.out (by have := SLT.out; omega) (by omega) (by omega) (by omega) (by omega)).mono ?_); rintro e v9 ⟨rfl, bxx9, obb9, bl9⟩
           have hB9 : Below (w.heap.size + 1) (w1.alloc (.cells #[.slice (some ⟨w.heap.size + 1, 0, none⟩) 512 512, .int .i64 0] 159)) v9 := HB8.out.trans bl9
           have c10 : v9.cell? ⟨w.heap.size, 7, none⟩ = some (.int .u8 k) := (CELLS.out _ _ SX.out hB9).cell rfl
           have cz : v9.cell? ⟨w1.heap.size, 1, none⟩ = some (.int .i64 E9) := bxx9.cell rfl
           have cy : v9.cell? ⟨w1.heap.size, 0, none⟩ = some (.slice (some ⟨w.heap.size + 1, 0, none⟩) 512 512) := bxx9.cell rfl
           have cc0 : v9.cell? ⟨w.heap.size, 0, none⟩ = some (.string p) := (CELLS.out _ _ SX.out hB9).cell rfl
           have cc1 : v9.cell? ⟨w.heap.size, 1, none⟩ = some (.string nm) := (CELLS.out _ _ SX.out hB9).cell rfl
           have cc2 : v9.cell? ⟨w.heap.size, 2, none⟩ = some (.int .i64 m) := (CELLS.out _ _ SX.out hB9).cell rfl
           have cc3 : v9.cell? ⟨w.heap.size, 3, none⟩ = some (.int .i64 u) := (CELLS.out _ _ SX.out hB9).cell rfl
           have cc4 : v9.cell? ⟨w.heap.size, 4, none⟩ = some (.int .i64 g) := (CELLS.out _ _ SX.out hB9).cell rfl
           have cc5 : v9.cell? ⟨w.heap.size, 5, none⟩ = some (.int .i64 t) := (CELLS.out _ _ SX.out hB9).cell rfl
           have cc6 : v9.cell? ⟨w.heap.size, 6, none⟩ = some (.int .i64 z) := (CELLS.out _ _ SX.out hB9).cell rfl
           have cc8 : v9.cell? ⟨w.heap.size, 8, none⟩ = some (.string l) := (CELLS.out _ _ SX.out hB9).cell rfl
           have bx9 := Lib.hid bxx9; have ob9 := Lib.hid obb9; have HB9 := Lib.hid hB9; clear bxx9 obb9 bl9 hB9))
      go_quiet (fail)
      go_wp2
      go_ret2
      exact ⟨_, rfl, OB.nil _ _ _, below_drewN ((SBL.out.alloc (by have := SLT.out; omega) _).trans (HB9.out.mono (by omega))) _⟩
  · rw [if_neg hk]
    have hk2 : Hh.isT k = false := by simpa using hk
    rw [hk2] at ist
    have IST := Lib.hid ist; clear ist hk hk2
    go_enter Tryz.func85, Tryz.ntmps85
    go_wp2_with (go_at_call 110; (with_reducible refine (IST.out _).mono ?_); rintro e w1 ⟨rfl, rfl⟩)
    go_ret2
    exact ⟨_, rfl, OB.nil _ _ _, (Below.refl _ _).alloc (Nat.le_refl _) _⟩
end Go.Proofs.YtjofdgjcbjdhbaaGreatDoor
