/- WALKS OF LAYER 5, SECOND PART: the writer's steps, head.Lay, May. -/
import Derived.Test.YtfkhemlaohkhkaaDoorH5a
import Derived.Test.YtfkhemlaohkhkaaDoorBx
import Derived.Test.YtfkhemlaohkhkaaDoorX3c
namespace Go.Proofs.YtfkhemlaohkhkaaDoor
open Go.RowKit
set_option maxHeartbeats 400000
set_option maxRecDepth 100000
theorem RB.src {w : World} {B n : Nat} {A : Option Addr} {xs : List Int} (h : RB w B A n xs) (hn : 0 < n) : ∃ ad, A = some ad ∧ ∀ j v, (xs.map (Value.int .u8))[j]? = some v → w.cell? (ad.add j) = some v := by
  obtain ⟨b, o, rfl, _, _⟩ := h.at_ hn
  exact ⟨_, rfl, h.news⟩
theorem wtext_any (a g c B off k : Nat) (xs : List Int) (e : Int) (s : ByteArray) (w : World) (hb : BX w a 51 #[.slice (some ⟨g, 0, none⟩) 512 c, .int .i64 e])
    (ho : OBn w B 5 (.slice (some ⟨g, 0, none⟩) 512 c) 512 xs) (hne : a ≠ g) (hB : B ≤ a) (hk : off + k ≤ 512) (hk0 : 0 < k) (hs : s.size ≤ 1000000) :
    Calls Tryd.prog 20 #[.pointer (some ⟨a, 0, none⟩), .int .i64 off, .int .i64 k, .string s] w fun r w' => r = .returned (.tuple #[]) ∧
      BX w' a 51 #[.slice (some ⟨g, 0, none⟩) 512 c, .int .i64 (Hh.step (xs, e) off (Sf.putS s k)).2] ∧ OBn w' B 5 (.slice (some ⟨g, 0, none⟩) 512 c) 512 (Hh.step (xs, e) off (Sf.putS s k)).1 ∧ Below B w w' := by
  have c0 : w.cell? ⟨a, 0, none⟩ = some (.slice (some ⟨g, 0, none⟩) 512 c) := hb.cell rfl
  have c1 : w.cell? ⟨a, 1, none⟩ = some (.int .i64 e) := hb.cell rfl
  by_cases he : e = 0
  · subst he
    have pt := put_any2 s k w hs
    have hl := (Hh.len_putT s k).1
    obtain ⟨⟨ys, e2⟩, hP⟩ : ∃ P, Sf.putS s k = P := ⟨_, rfl⟩
    rw [hP] at pt hl ⊢
    have hst : Hh.step (xs, 0) off (ys, e2) = (Hh.put xs off ys, e2) := by simp [Hh.step]
    rw [hst]
    simp only at pt hl ⊢
    have fin : ∀ w1, Below w.heap.size w w1 → w1.cell? ⟨a, 0, none⟩ = some (.slice (some ⟨g, 0, none⟩) 512 c) ∧ BX w1 a 51 #[.slice (some ⟨g, 0, none⟩) 512 c, .int .i64 0] ∧
        ∃ l : List Value, w1.heap[g]? = some (.cells l.toArray 5 (0, 0)) ∧ 512 ≤ c ∧ c ≤ maxLen ∧ l.length = c ∧ l.take 512 = xs.map (Value.int .u8) ∧ B ≤ g := fun w1 h => by
      obtain ⟨g', c', cur, he, h1, _, h2, h3, h4, h5, h6⟩ := (ho.later h).shape (by omega)
      cases he
      exact ⟨(hb.later h).cell rfl, hb.later h, cur.toList, by simpa using h2, h3, h4, by simpa using h5, by simpa using h6, h1⟩
    have hxl := ho.len
    have hbs : B ≤ w.heap.size := by have := hb.lt; omega
    have PT := Lib.hid pt; have HB := Lib.hid hb; have HO := Lib.hid ho; have FIN := Lib.hid fin; have HXL := Lib.hid hxl; have HBS := Lib.hid hbs
    clear pt hP hst hb ho fin hxl hbs
    go_enter Tryd.func20, Tryd.ntmps20
    go_wp2_with (first
      | (go_at_call 37; (with_reducible refine PT.out.mono ?_); rintro e w1 ⟨v1, rfl, ho1, hb1⟩; obtain ⟨d0, dbx, l, dh, hc1, hc2, hll, hlt, hBg⟩ := FIN.out w1 hb1; have hcne : ¬ c = off := (by omega); obtain ⟨A1, k1, rfl, hr1, _, _⟩ := ho1.rb; have hofc : off ≤ c := (by omega); have hof5 : off ≤ 512 := (by omega); have HBX := Lib.hid dbx; have HH := Lib.hid dh; clear dbx dh)
      | (refine wpList_copy_keep rfl _ _ 28 28 rfl 5 Tryd.underlying28 (by kernel_rfl) (some ⟨g, off, none⟩) A1 (512 - off) (c - off) ys.length k1 rfl rfl g off l 5 HH.out (ys.map (Value.int .u8)) (by rw [List.length_map]; exact (Nat.min_eq_left (by omega)).symm) (fun h => ⟨rfl, hr1.src (by simpa using h)⟩) (by rw [List.length_map]; omega) (u8_cells _) ?_
         intro w2 hg2 hot2
         have hbx2 := HBX.out.oth hot2.out hne
         have f1 := hbx2.free 1
         have f2 : w2.cell? ⟨a, 1, none⟩ = some (.int .i64 0) := hbx2.cell rfl
         have HBX2 := Lib.hid hbx2; clear hbx2))
    refine bodyPost_end (v := .tuple #[]) (by simp [results, Tryd.f20, go_sem]) rfl ⟨rfl, ?_, ?_, ?_⟩
    · have := HBX2.out.set 1 (.int .i64 e2)
      simpa using this
    · have h := OBn.spliced (base := B) (xs := xs) (n := 512) hg2.out hll hc1 hc2 hBg hlt HXL.out (by omega)
      exact h.beside hne _
    · have hs2 := hb1.size
      exact ((hb1.mono HBS.out).trans (hot2.out.below hBg (by have := HBS.out; omega))).setCell hB _
  · have e1 : (e != 0) = true := by simp [he]
    have hst : ∀ f, Hh.step (xs, e) off f = (xs, e) := fun f => by simp [Hh.step, he]
    rw [hst]
    have HB := Lib.hid hb; have HO := Lib.hid ho
    clear hst he hb ho
    go_enter Tryd.func20, Tryd.ntmps20
    go_wp2
    refine bodyPost_ret (v := .tuple #[]) (by simp [results, Tryd.f20, go_sem]) rfl ⟨rfl, HB.out, HO.out, Below.refl _ _⟩
theorem wnum_any (a g c B off k : Nat) (xs : List Int) (e : Int) (s : Int) (w : World) (hb : BX w a 51 #[.slice (some ⟨g, 0, none⟩) 512 c, .int .i64 e])
    (ho : OBn w B 5 (.slice (some ⟨g, 0, none⟩) 512 c) 512 xs) (hne : a ≠ g) (hB : B ≤ a) (hk : off + k ≤ 512) (hk0 : 0 < k) (hs0 : -9223372036854775808 ≤ s) (hs1 : s ≤ 9223372036854775807) :
    Calls Tryd.prog 21 #[.pointer (some ⟨a, 0, none⟩), .int .i64 off, .int .i64 k, .int .i64 s] w fun r w' => r = .returned (.tuple #[]) ∧
      BX w' a 51 #[.slice (some ⟨g, 0, none⟩) 512 c, .int .i64 (Hh.step (xs, e) off (Nf.putS s k)).2] ∧ OBn w' B 5 (.slice (some ⟨g, 0, none⟩) 512 c) 512 (Hh.step (xs, e) off (Nf.putS s k)).1 ∧ Below B w w' := by
  have c0 : w.cell? ⟨a, 0, none⟩ = some (.slice (some ⟨g, 0, none⟩) 512 c) := hb.cell rfl
  have c1 : w.cell? ⟨a, 1, none⟩ = some (.int .i64 e) := hb.cell rfl
  by_cases he : e = 0
  · subst he
    have pt := put_any s k w hs0 hs1
    have hl := (Hh.len_putN s k hs0 hs1).1
    obtain ⟨⟨ys, e2⟩, hP⟩ : ∃ P, Nf.putS s k = P := ⟨_, rfl⟩
    rw [hP] at pt hl ⊢
    have hst : Hh.step (xs, 0) off (ys, e2) = (Hh.put xs off ys, e2) := by simp [Hh.step]
    rw [hst]
    simp only at pt hl ⊢
    have fin : ∀ w1, Below w.heap.size w w1 → w1.cell? ⟨a, 0, none⟩ = some (.slice (some ⟨g, 0, none⟩) 512 c) ∧ BX w1 a 51 #[.slice (some ⟨g, 0, none⟩) 512 c, .int .i64 0] ∧
        ∃ l : List Value, w1.heap[g]? = some (.cells l.toArray 5 (0, 0)) ∧ 512 ≤ c ∧ c ≤ maxLen ∧ l.length = c ∧ l.take 512 = xs.map (Value.int .u8) ∧ B ≤ g := fun w1 h => by
      obtain ⟨g', c', cur, he, h1, _, h2, h3, h4, h5, h6⟩ := (ho.later h).shape (by omega)
      cases he
      exact ⟨(hb.later h).cell rfl, hb.later h, cur.toList, by simpa using h2, h3, h4, by simpa using h5, by simpa using h6, h1⟩
    have hxl := ho.len
    have hbs : B ≤ w.heap.size := by have := hb.lt; omega
    have PT := Lib.hid pt; have HB := Lib.hid hb; have HO := Lib.hid ho; have FIN := Lib.hid fin; have HXL := Lib.hid hxl; have HBS := Lib.hid hbs
    clear pt hP hst hb ho fin hxl hbs
    go_enter Tryd.func21, Tryd.ntmps21
    go_wp2_with (first
      | (go_at_call 38; (with_reducible refine PT.out.mono ?_); rintro e w1 ⟨v1, rfl, ho1, hb1⟩; obtain ⟨d0, dbx, l, dh, hc1, hc2, hll, hlt, hBg⟩ := FIN.out w1 hb1; have hcne : ¬ c = off := (by omega); obtain ⟨A1, k1, rfl, hr1, _, _⟩ := ho1.rb; have hofc : off ≤ c := (by omega); have hof5 : off ≤ 512 := (by omega); have HBX := Lib.hid dbx; have HH := Lib.hid dh; clear dbx dh)
      | (refine wpList_copy_keep rfl _ _ 28 28 rfl 5 Tryd.underlying28 (by kernel_rfl) (some ⟨g, off, none⟩) A1 (512 - off) (c - off) ys.length k1 rfl rfl g off l 5 HH.out (ys.map (Value.int .u8)) (by rw [List.length_map]; exact (Nat.min_eq_left (by omega)).symm) (fun h => ⟨rfl, hr1.src (by simpa using h)⟩) (by rw [List.length_map]; omega) (u8_cells _) ?_
         intro w2 hg2 hot2
         have hbx2 := HBX.out.oth hot2.out hne
         have f1 := hbx2.free 1
         have f2 : w2.cell? ⟨a, 1, none⟩ = some (.int .i64 0) := hbx2.cell rfl
         have HBX2 := Lib.hid hbx2; clear hbx2))
    refine bodyPost_end (v := .tuple #[]) (by simp [results, Tryd.f21, go_sem]) rfl ⟨rfl, ?_, ?_, ?_⟩
    · have := HBX2.out.set 1 (.int .i64 e2)
      simpa using this
    · have h := OBn.spliced (base := B) (xs := xs) (n := 512) hg2.out hll hc1 hc2 hBg hlt HXL.out (by omega)
      exact h.beside hne _
    · have hs2 := hb1.size
      exact ((hb1.mono HBS.out).trans (hot2.out.below hBg (by have := HBS.out; omega))).setCell hB _
  · have e1 : (e != 0) = true := by simp [he]
    have hst : ∀ f, Hh.step (xs, e) off f = (xs, e) := fun f => by simp [Hh.step, he]
    rw [hst]
    have HB := Lib.hid hb; have HO := Lib.hid ho
    clear hst he hb ho
    go_enter Tryd.func21, Tryd.ntmps21
    go_wp2
    refine bodyPost_ret (v := .tuple #[]) (by simp [results, Tryd.f21, go_sem]) rfl ⟨rfl, HB.out, HO.out, Below.refl _ _⟩
theorem wtext_at (a g c B off k : Nat) (O K : Int) (hO : O = off) (hK : K = k) (xs : List Int) (e : Int) (s : ByteArray) (xs' : List Int) (e' : Int) (hst : Hh.step (xs, e) off (Sf.putS s K) = (xs', e')) (w : World) (hb : BX w a 51 #[.slice (some ⟨g, 0, none⟩) 512 c, .int .i64 e])
    (ho : OBn w B 5 (.slice (some ⟨g, 0, none⟩) 512 c) 512 xs) (hne : ¬ a = g) (hB : B ≤ a) (hk : off + k ≤ 512) (hk0 : 0 < k) (hs : s.size ≤ 1000000) :
    Calls Tryd.prog 20 #[.pointer (some ⟨a, 0, none⟩), .int .i64 O, .int .i64 K, .string s] w fun r w' => r = .returned (.tuple #[]) ∧
      BX w' a 51 #[.slice (some ⟨g, 0, none⟩) 512 c, .int .i64 e'] ∧ OBn w' B 5 (.slice (some ⟨g, 0, none⟩) 512 c) 512 xs' ∧ Below B w w' := by
  subst hO
  subst hK
  have h := wtext_any a g c B off k xs e s w hb ho hne hB hk hk0 hs
  rw [hst] at h
  exact h
theorem wnum_at (a g c B off k : Nat) (O K : Int) (hO : O = off) (hK : K = k) (xs : List Int) (e : Int) (s : Int) (xs' : List Int) (e' : Int) (hst : Hh.step (xs, e) off (Nf.putS s K) = (xs', e')) (w : World) (hb : BX w a 51 #[.slice (some ⟨g, 0, none⟩) 512 c, .int .i64 e])
    (ho : OBn w B 5 (.slice (some ⟨g, 0, none⟩) 512 c) 512 xs) (hne : ¬ a = g) (hB : B ≤ a) (hk : off + k ≤ 512) (hk0 : 0 < k) (hs0 : -9223372036854775808 ≤ s) (hs1 : s ≤ 9223372036854775807) :
    Calls Tryd.prog 21 #[.pointer (some ⟨a, 0, none⟩), .int .i64 O, .int .i64 K, .int .i64 s] w fun r w' => r = .returned (.tuple #[]) ∧
      BX w' a 51 #[.slice (some ⟨g, 0, none⟩) 512 c, .int .i64 e'] ∧ OBn w' B 5 (.slice (some ⟨g, 0, none⟩) 512 c) 512 xs' ∧ Below B w w' := by
  subst hO
  subst hK
  have h := wnum_any a g c B off k xs e s w hb ho hne hB hk hk0 hs0 hs1
  rw [hst] at h
  exact h
end Go.Proofs.YtfkhemlaohkhkaaDoor
