/- WALKS OF LAYER 12, FOURTH PART: boxes of words; the reference's words. -/
import Derived.Test.YtfggknplekiaoaaDoorD12c
import Derived.Deep.MidRow
import Derived.Deep.RegionHeld3
import Derived.StillTailTactics
namespace Go.Proofs.YtfggknplekiaoaaDoor
open Go Go.RowKit
set_option maxHeartbeats 2000000
set_option maxRecDepth 100000
set_option linter.unusedVariables false
def vw (x : Nat) : Value := .int .u32 x
/-- THE BLOCK a IS A BOX OF THE WORDS l. -/
def WX (w : World) (a : Nat) (T : TypeId) (l : List Nat) : Prop := BX w a T (l.map vw).toArray
theorem vw_one (l : List Nat) : ∀ v ∈ l.map vw, v.oneCell' = true := by
  intro v hv
  obtain ⟨x, _, rfl⟩ := List.mem_map.1 hv
  rfl
section
variable {w w' : World} {a b B j : Nat} {T : TypeId} {l : List Nat}
theorem WX.cell (h : WX w a T l) (hj : j < l.length) : w.cell? ⟨a, j, none⟩ = some (.int .u32 (l.getD j 0 : Nat)) := by
  refine BX.cell h ?_
  simp [vw, List.getD, hj]
theorem WX.set (h : WX w a T l) (j x : Nat) : WX (w.setCell ⟨a, j, none⟩ (.int .u32 x)) a T (l.set j x) := by
  have := BX.set h j (.int .u32 x)
  unfold WX
  rwa [List.setIfInBounds_toArray, ← show vw x = .int .u32 x from rfl, ← List.map_set] at this
theorem WX.range (h : WX w a T l) : w.rangeAt a 0 (l.map vw) := fun j v hv => by
  rw [Nat.zero_add]
  exact BX.cell h (by rw [List.getElem?_toArray]; exact hv)
theorem WX.there (h : WX w a T l) : w.there a 0 l.length := fun j hj => by
  rw [Nat.zero_add]
  exact ⟨by rw [h.cell hj]; rfl, BX.free h j⟩
end
theorem bx_sets {a : Nat} {T : TypeId} : ∀ (vs : List Value) (w : World) (pre old post : List Value), BX w a T (pre ++ old ++ post).toArray → old.length = vs.length → BX (w.setCells a pre.length vs) a T (pre ++ vs ++ post).toArray
  | [], w, pre, old, post, h, hl => by
    obtain rfl : old = [] := List.eq_nil_of_length_eq_zero hl
    exact h
  | v :: vs, w, pre, old, post, h, hl => by
    match old, hl with
    | x :: old, hl =>
      have h1 := BX.set h pre.length v
      rw [List.setIfInBounds_toArray, List.append_assoc, List.set_append_right _ _ (Nat.le_refl _), Nat.sub_self] at h1
      have h2 := bx_sets vs (w.setCell ⟨a, pre.length, none⟩ v) (pre ++ [v]) old post (by simpa using h1) (by simpa using hl)
      have e : (pre ++ [v]).length = pre.length + 1 := by simp
      rw [e] at h2
      show BX ((w.setCell ⟨a, pre.length, none⟩ v).setCells a (pre.length + 1) vs) a T _
      simpa using h2
theorem below_sets {B a : Nat} (ha : B ≤ a) : ∀ (vs : List Value) (o : Nat) {w w' : World}, Below B w w' → Below B w (w'.setCells a o vs)
  | [], _, _, _, h => h
  | v :: vs, o, _, _, h => below_sets ha vs (o + 1) (h.setCell ha v)
theorem WX.sets {w : World} {a : Nat} {T : TypeId} {l l' : List Nat} (h : WX w a T l) (hl : l'.length = l.length) : WX (w.setCells a 0 (l'.map vw)) a T l' := by
  have h0 : BX w a T ([] ++ l.map vw ++ []).toArray := by rw [List.nil_append, List.append_nil]; exact h
  have := bx_sets (l'.map vw) w [] (l.map vw) [] h0 (by simp [hl])
  rw [List.nil_append, List.append_nil] at this
  exact this
namespace Dg
theorem wl_len (b : List Int) : ∀ i, (wl b i).length = i
  | 0 => rfl
  | i + 1 => by show (wl b i ++ [_]).length = _; rw [List.length_append, wl_len b i]; rfl
theorem wl_step (b : List Int) (i : Nat) : wl b (i + 1) = wl b i ++ [nxt b (wl b i) i] := rfl
/-- The box behind i words. -/
def wb (b : List Int) (i : Nat) : List Nat := wl b i ++ List.replicate (64 - i) 0
theorem wb_len {b : List Int} {i : Nat} (h : i ≤ 64) : (wb b i).length = 64 := by unfold wb; rw [List.length_append, wl_len, List.length_replicate]; omega
theorem wb_all (b : List Int) : wb b 64 = wl b 64 := by unfold wb; simp
theorem wb_set {b : List Int} {i : Nat} (h : i < 64) : (wb b i).set i (nxt b (wl b i) i) = wb b (i + 1) := by
  unfold wb
  rw [List.set_append_right _ _ (by rw [wl_len]; exact Nat.le_refl _), wl_len, Nat.sub_self, show 64 - i = (64 - (i + 1)) + 1 from by omega, List.replicate_succ, List.set_cons_zero, wl_step, List.append_assoc]
  rfl
theorem wb_at {b : List Int} {i j : Nat} (h : j < i) : (wb b i).getD j 0 = (wl b i).getD j 0 := by
  unfold wb
  simp [List.getD_eq_getElem?_getD, List.getElem?_append_left (show j < (wl b i).length by rw [wl_len]; exact h)]
theorem nxt_low {b : List Int} {l : List Nat} {i : Nat} (h : i < 16) : nxt b l i = be b i := if_pos h
theorem nxt_high {b : List Int} {l : List Nat} {i : Nat} (h : 16 ≤ i) : nxt b l i = (l.getD (i - 16) 0 + s0 (l.getD (i - 15) 0) + l.getD (i - 7) 0 + s1 (l.getD (i - 2) 0)) % 4294967296 := if_neg (by omega)
theorem be_lt {b : List Int} (hy : Byt b) (i : Nat) : be b i < 4294967296 := by
  unfold be
  have h0 := hy (4 * i); have h1 := hy (4 * i + 1); have h2 := hy (4 * i + 2); have h3 := hy (4 * i + 3)
  omega
theorem nxt_lt {b : List Int} (hy : Byt b) (l : List Nat) (i : Nat) : nxt b l i < 4294967296 := by
  unfold nxt
  split
  · exact be_lt hy i
  · omega
theorem wl_lt {b : List Int} (hy : Byt b) : ∀ (i j : Nat), (wl b i).getD j 0 < 4294967296
  | 0, j => by simp [wl]
  | i + 1, j => by
    rw [wl_step]
    rcases Nat.lt_trichotomy j i with h | h | h
    · rw [List.getD_eq_getElem?_getD, List.getElem?_append_left (by rw [wl_len]; exact h), ← List.getD_eq_getElem?_getD]
      exact wl_lt hy i j
    · subst h
      rw [List.getD_eq_getElem?_getD, List.getElem?_append_right (by rw [wl_len]; exact Nat.le_refl _), wl_len]
      simp
      exact nxt_lt hy _ _
    · rw [List.getD_eq_getElem?_getD, List.getElem?_eq_none (by rw [List.length_append, wl_len]; simp; omega)]
      simp
end Dg
theorem results_cell {P : Program} {fn : Func} {p : Tmp} {ty : TypeId} (h : fn.results = #[.cell p ty]) (tmps : Array Value) (w : World) (A : Addr) (V : Value) (hp : tmps.getD p undef = .pointer (some A)) (hv : (loadVar ty A).run P w = .ok V w) :
    (results fn tmps).run P w = .ok V w := by
  have hp' : tmps[p]?.getD undef = .pointer (some A) := by simpa using hp
  simp only [results, h]
  simp [hp', asAddr, hv]
theorem words_any (A : Option Addr) (c : Nat) (b : List Int) (w : World) (ha : RB w w.heap.size A 64 b) (hy : Byt b) (hc : 64 ≤ c) :
    Calls Tryd.prog 17 #[.slice A 64 c] w fun e w' => e = .returned (.agg ((Dg.wl b 64).map vw).toArray) ∧ Below w.heap.size w w' := by
  obtain ⟨bb, oo, rfl, hbb, _⟩ := ha.at0 (by omega)
  have HA := Lib.hid ha; have HY := Lib.hid hy; clear ha hy
  go_enter Tryd.func17, Tryd.ntmps17
  go_wp2
  go_loopw [4] (fun v wr => ∃ i : Nat, i ≤ 64 ∧ v = .int .i64 i ∧ WX wr (w.heap.size + 1) 47 (Dg.wb b i) ∧ WX wr w.heap.size 47 (List.replicate 64 0) ∧ Below w.heap.size w wr) (fun v _ => 64 - (intOf v).toNat)
  case atStart =>
    refine ⟨0, by omega, rfl, ?_, ?_, ((Below.refl _ _).alloc (Nat.le_refl _) _).alloc (by simp) _⟩
    · have := BX.new (w.alloc (.cells ((List.replicate 64 0).map vw).toArray 47)) 47 ((List.replicate 64 0).map vw).toArray
      simp only [World.size_alloc] at this
      exact this
    · exact (BX.new w 47 ((List.replicate 64 0).map vw).toArray).alloc _
  case round =>
    obtain ⟨i, hi, rfl, hx, hx0, hb⟩ := hrel
    have HX := Lib.hid hx; have HX0 := Lib.hid hx0; have HB := Lib.hid hb
    have hlen := Lib.hid (Dg.wb_len (b := b) hi)
    clear hx hx0 hb
    by_cases hlt : i < 64
    · have hs := Dg.wb_set (b := b) hlt
      by_cases h16 : i < 16
      · have hbe := Dg.nxt_low (b := b) (l := Dg.wl b i) h16
        have hra := HA.out.below HB.out
        have c0 := hra.at_' (k := 4 * i) (by omega)
        have c1 := hra.at_' (k := 4 * i + 1) (by omega)
        have c2 := hra.at_' (k := 4 * i + 2) (by omega)
        have c3 := hra.at_' (k := 4 * i + 3) (by omega)
        have y0 := HY.out (4 * i); have y1 := HY.out (4 * i + 1); have y2 := HY.out (4 * i + 2); have y3 := HY.out (4 * i + 3)
        unfold Dg.be at hbe
        rw [hbe] at hs
        clear hbe hra
        generalize b.getD (4 * i) 0 = x0 at *
        generalize b.getD (4 * i + 1) 0 = x1 at *
        generalize b.getD (4 * i + 2) 0 = x2 at *
        generalize b.getD (4 * i + 3) 0 = x3 at *
        obtain ⟨x0, rfl⟩ : ∃ z : Nat, x0 = (z : Int) := ⟨x0.toNat, by omega⟩
        obtain ⟨x1, rfl⟩ : ∃ z : Nat, x1 = (z : Int) := ⟨x1.toNat, by omega⟩
        obtain ⟨x2, rfl⟩ : ∃ z : Nat, x2 = (z : Int) := ⟨x2.toNat, by omega⟩
        obtain ⟨x3, rfl⟩ : ∃ z : Nat, x3 = (z : Int) := ⟨x3.toNat, by omega⟩
        simp only [Int.toNat_natCast] at hs
        obtain ⟨t, ht⟩ : ∃ t, 4 * i = t := ⟨_, rfl⟩
        rw [ht] at c0 c1 c2 c3
        have s0 : IntKind.i64.wrap (4 * (i : Int)) = (t : Int) := by rw [IntWalk.i64_in _ (by omega)]; omega
        have ht61 : t ≤ 60 := by omega
        have j0 : (0 : Int) ≤ (t : Int) := by omega
        have j1 : (t : Int) < 64 := by omega
        obtain ⟨r1, hr1⟩ : ∃ r, t + 1 = r := ⟨_, rfl⟩
        obtain ⟨r2, hr2⟩ : ∃ r, t + 2 = r := ⟨_, rfl⟩
        obtain ⟨r3, hr3⟩ : ∃ r, t + 3 = r := ⟨_, rfl⟩
        rw [hr1] at c1; rw [hr2] at c2; rw [hr3] at c3
        have j2 : (r1 : Int) < 64 := by omega
        have j3 : (r2 : Int) < 64 := by omega
        have j4 : (r3 : Int) < 64 := by omega
        have j5 : (0 : Int) ≤ (r1 : Int) := by omega
        have j6 : (0 : Int) ≤ (r2 : Int) := by omega
        have j7 : (0 : Int) ≤ (r3 : Int) := by omega
        have w1 : IntKind.i64.wrap ((t : Int) + 1) = (r1 : Int) := by rw [IntWalk.i64_in _ (by omega)]; omega
        have w2 : IntKind.i64.wrap ((t : Int) + 2) = (r2 : Int) := by rw [IntWalk.i64_in _ (by omega)]; omega
        have w3 : IntKind.i64.wrap ((t : Int) + 3) = (r3 : Int) := by rw [IntWalk.i64_in _ (by omega)]; omega
        have u0 : IntKind.u32.wrap (x0 : Int) = (x0 : Int) := by rw [IntKind.wrap_u32']; omega
        have u1 : IntKind.u32.wrap (x1 : Int) = (x1 : Int) := by rw [IntKind.wrap_u32']; omega
        have u2 : IntKind.u32.wrap (x2 : Int) = (x2 : Int) := by rw [IntKind.wrap_u32']; omega
        have u3 : IntKind.u32.wrap (x3 : Int) = (x3 : Int) := by rw [IntKind.wrap_u32']; omega
        have v0 : IntKind.u32.wrap ((x0 : Int) * 16777216) = (x0 : Int) * 16777216 := by rw [IntKind.wrap_u32']; omega
        have v1 : IntKind.u32.wrap ((x1 : Int) * 65536) = (x1 : Int) * 65536 := by rw [IntKind.wrap_u32']; omega
        have v2 : IntKind.u32.wrap ((x2 : Int) * 256) = (x2 : Int) * 256 := by rw [IntKind.wrap_u32']; omega
        have v3 : IntKind.u32.wrap ((x0 : Int) * 16777216 + (x1 : Int) * 65536) = (x0 : Int) * 16777216 + (x1 : Int) * 65536 := by rw [IntKind.wrap_u32']; omega
        have v4 : IntKind.u32.wrap ((x0 : Int) * 16777216 + (x1 : Int) * 65536 + (x2 : Int) * 256) = (x0 : Int) * 16777216 + (x1 : Int) * 65536 + (x2 : Int) * 256 := by rw [IntKind.wrap_u32']; omega
        have v5 : IntKind.u32.wrap ((x0 : Int) * 16777216 + (x1 : Int) * 65536 + (x2 : Int) * 256 + (x3 : Int)) = (x0 : Int) * 16777216 + (x1 : Int) * 65536 + (x2 : Int) * 256 + (x3 : Int) := by rw [IntKind.wrap_u32']; omega
        have k0 : (0 : Int) ≤ (i : Int) := by omega
        have k1 : (i : Int) < 64 := by omega
        clear ht hr1 hr2 hr3
        go_wp2
        go_still_tail 35, (by kernel_rfl)
        repeat still_step
        clear c0 c1 c2 c3
        have hx1 := BX.drew HX.out
        have hx2 := BX.drew HX0.out
        have hb1 := HB.out.drew
        change wpList _ _ _ _ _ wr.drew
        generalize wr.drew = W1 at *
        have cz := WX.cell hx1 (j := i) (by rw [hlen.out]; exact hlt)
        have fz := BX.free hx1 i
        have hst := WX.set hx1 i (x0 * 16777216 + x1 * 65536 + x2 * 256 + x3)
        rw [hs] at hst
        have HST : Hid (WX (W1.setCell ⟨w.heap.size + 1, i, none⟩ (.int .u32 ((x0 : Int) * 16777216 + (x1 : Int) * 65536 + (x2 : Int) * 256 + (x3 : Int)))) (w.heap.size + 1) 47 (Dg.wb b (i + 1))) := hst
        have HST0 : Hid (WX (W1.setCell ⟨w.heap.size + 1, i, none⟩ (.int .u32 ((x0 : Int) * 16777216 + (x1 : Int) * 65536 + (x2 : Int) * 256 + (x3 : Int)))) w.heap.size 47 (List.replicate 64 0)) := BX.other hx2 (by omega) _
        have HB2 := Lib.hid (hb1.setCell (p := ⟨w.heap.size + 1, i, none⟩) (show w.heap.size ≤ w.heap.size + 1 by omega) (.int .u32 ((x0 : Int) * 16777216 + (x1 : Int) * 65536 + (x2 : Int) * 256 + (x3 : Int))))
        clear hst hx1 hx2 hb1 hs
        go_wp2
        go_roundw
        case rel => exact ⟨i + 1, by omega, by go_num, HST.out, HST0.out, HB2.out⟩
        case measure => simp [intOf]; omega
      · have hnx := Dg.nxt_high (b := b) (l := Dg.wl b i) (i := i) (by omega)
        obtain ⟨o16, h16'⟩ : ∃ r, i - 16 = r := ⟨_, rfl⟩
        obtain ⟨o15, h15'⟩ : ∃ r, i - 15 = r := ⟨_, rfl⟩
        obtain ⟨o7, h7'⟩ : ∃ r, i - 7 = r := ⟨_, rfl⟩
        obtain ⟨o2, h2'⟩ : ∃ r, i - 2 = r := ⟨_, rfl⟩
        have cl : ∀ j, j < i → wr.cell? ⟨w.heap.size + 1, j, none⟩ = some (.int .u32 ((Dg.wl b i).getD j 0 : Nat)) := fun j hj => by
          rw [← Dg.wb_at hj]
          exact HX.out.cell (by rw [hlen.out]; omega)
        have c16 := cl o16 (by omega); have c15 := cl o15 (by omega); have c7 := cl o7 (by omega); have c2 := cl o2 (by omega)
        have l16 := Dg.wl_lt HY.out i o16; have l15 := Dg.wl_lt HY.out i o15; have l7 := Dg.wl_lt HY.out i o7; have l2 := Dg.wl_lt HY.out i o2
        rw [h16', h15', h7', h2'] at hnx
        generalize (Dg.wl b i).getD o16 0 = p at *
        generalize (Dg.wl b i).getD o15 0 = x at *
        generalize (Dg.wl b i).getD o7 0 = q at *
        generalize (Dg.wl b i).getD o2 0 = y at *
        have w16 : IntKind.i64.wrap ((i : Int) - 16) = (o16 : Int) := by rw [IntWalk.i64_in _ (by omega)]; omega
        have w15 : IntKind.i64.wrap ((i : Int) - 15) = (o15 : Int) := by rw [IntWalk.i64_in _ (by omega)]; omega
        have w7 : IntKind.i64.wrap ((i : Int) - 7) = (o7 : Int) := by rw [IntWalk.i64_in _ (by omega)]; omega
        have w2 : IntKind.i64.wrap ((i : Int) - 2) = (o2 : Int) := by rw [IntWalk.i64_in _ (by omega)]; omega
        have i16 : (o16 : Int) < 64 := by omega
        have i15 : (o15 : Int) < 64 := by omega
        have i7 : (o7 : Int) < 64 := by omega
        have i2 : (o2 : Int) < 64 := by omega
        have k0 : (0 : Int) ≤ (i : Int) := by omega
        have k1 : (i : Int) < 64 := by omega
        have d16 : o16 ≠ i := by omega
        have d7 : o7 ≠ i := by omega
        clear h16' h15' h7' h2' cl
        have T7 : Hid (∀ W, Calls Tryd.prog 18 #[.int .u32 x, .int .i64 7] W fun e w' => e = .returned (.int .u32 (Dg.rot x 7 : Nat)) ∧ ∃ m, w' = W.drewN m) := fun W => turn_any x 7 W l15 (by omega) (by omega)
        have T18 : Hid (∀ W, Calls Tryd.prog 18 #[.int .u32 x, .int .i64 18] W fun e w' => e = .returned (.int .u32 (Dg.rot x 18 : Nat)) ∧ ∃ m, w' = W.drewN m) := fun W => turn_any x 18 W l15 (by omega) (by omega)
        have T17 : Hid (∀ W, Calls Tryd.prog 18 #[.int .u32 y, .int .i64 17] W fun e w' => e = .returned (.int .u32 (Dg.rot y 17 : Nat)) ∧ ∃ m, w' = W.drewN m) := fun W => turn_any y 17 W l2 (by omega) (by omega)
        have T19 : Hid (∀ W, Calls Tryd.prog 18 #[.int .u32 y, .int .i64 19] W fun e w' => e = .returned (.int .u32 (Dg.rot y 19 : Nat)) ∧ ∃ m, w' = W.drewN m) := fun W => turn_any y 19 W l2 (by omega) (by omega)
        have r7 := Dg.rot_lt 7 l15; have r18 := Dg.rot_lt 18 l15; have r17 := Dg.rot_lt 17 l2; have r19 := Dg.rot_lt 19 l2
        unfold Dg.s0 Dg.s1 at hnx
        generalize Dg.rot x 7 = a7 at *
        generalize Dg.rot x 18 = a18 at *
        generalize Dg.rot y 17 = a17 at *
        generalize Dg.rot y 19 = a19 at *
        have e1 : bits .xor .u32 (a7 : Int) (a18 : Int) = ((a7 ^^^ a18 : Nat) : Int) := u32_xor_nat _ _ r7 r18
        have e2 : bits .xor .u32 (a17 : Int) (a19 : Int) = ((a17 ^^^ a19 : Nat) : Int) := u32_xor_nat _ _ r17 r19
        have rx : a7 ^^^ a18 < 4294967296 := Nat.xor_lt_two_pow (n := 32) r7 r18
        have ry : a17 ^^^ a19 < 4294967296 := Nat.xor_lt_two_pow (n := 32) r17 r19
        generalize a7 ^^^ a18 = ax at *
        generalize a17 ^^^ a19 = ay at *
        have e3 : bits .xor .u32 (ax : Int) ((x : Int) / 8) = ((ax ^^^ x / 8 : Nat) : Int) := u32_xor_nat ax (x / 8) rx (by omega)
        have e4 : bits .xor .u32 (ay : Int) ((y : Int) / 1024) = ((ay ^^^ y / 1024 : Nat) : Int) := u32_xor_nat ay (y / 1024) ry (by omega)
        have rx2 : ax ^^^ x / 8 < 4294967296 := Nat.xor_lt_two_pow (n := 32) rx (by omega)
        have ry2 : ay ^^^ y / 1024 < 4294967296 := Nat.xor_lt_two_pow (n := 32) ry (by omega)
        generalize ax ^^^ x / 8 = sx at *
        generalize ay ^^^ y / 1024 = sy at *
        obtain ⟨z1, hz1⟩ : ∃ z, (p + sx) % 4294967296 = z := ⟨_, rfl⟩
        obtain ⟨z2, hz2⟩ : ∃ z, (z1 + q) % 4294967296 = z := ⟨_, rfl⟩
        obtain ⟨z3, hz3⟩ : ∃ z, (z2 + sy) % 4294967296 = z := ⟨_, rfl⟩
        have f1 : IntKind.u32.wrap ((p : Int) + (sx : Int)) = (z1 : Int) := by rw [IntKind.wrap_u32']; omega
        have f2 : IntKind.u32.wrap ((z1 : Int) + (q : Int)) = (z2 : Int) := by rw [IntKind.wrap_u32']; omega
        have f3 : IntKind.u32.wrap ((z2 : Int) + (sy : Int)) = (z3 : Int) := by rw [IntKind.wrap_u32']; omega
        have hz : (p + sx + q + sy) % 4294967296 = z3 := by omega
        rw [hnx, hz] at hs
        have HS := Lib.hid hs
        clear hz hnx hz1 hz2 hz3 hs r7 r18 r17 r19 rx ry rx2 ry2
        go_wp2
        go_quiet (fail)
        go_wp2
        have hx1 := BX.drewN HX.out nq
        have hx2 := BX.drewN HX0.out nq
        have hb1 := below_drewN HB.out nq
        have c16' : (wr.drewN nq).cell? ⟨w.heap.size + 1, o16, none⟩ = some (.int .u32 p) := c16
        have c7' : (wr.drewN nq).cell? ⟨w.heap.size + 1, o7, none⟩ = some (.int .u32 q) := c7
        clear c16 c15 c7 c2
        generalize wr.drewN nq = W1 at *
        have cz := WX.cell hx1 (j := i) (by rw [hlen.out]; exact hlt)
        have fz := BX.free hx1 i
        have KEEP : Hid (∀ (n : Nat) (v : Value), ((W1.drewN n).setCell ⟨w.heap.size + 1, i, none⟩ v).cell? ⟨w.heap.size + 1, o16, none⟩ = some (.int .u32 p) ∧ ((W1.drewN n).setCell ⟨w.heap.size + 1, i, none⟩ v).cell? ⟨w.heap.size + 1, o7, none⟩ = some (.int .u32 q)) := fun n v => by
          refine ⟨(World.cell?_setCell_other _ _ _ _ ?_).trans c16', (World.cell?_setCell_other _ _ _ _ ?_).trans c7'⟩
          · intro h; injection h; omega
          · intro h; injection h; omega
        go_region_held3 (fun w' => w'.cell? ⟨w.heap.size + 1, o16, none⟩ = some (.int .u32 p) ∧ w'.cell? ⟨w.heap.size + 1, o7, none⟩ = some (.int .u32 q)) (first | go_keep | (exact KEEP.out _ _)) (first
          | (go_at_call 18; (with_reducible refine (T7.out _).mono ?_); rintro e w7 ⟨rfl, m7, rfl⟩)
          | (go_at_call 18; (with_reducible refine (T18.out _).mono ?_); rintro e w18 ⟨rfl, m18, rfl⟩)
          | (go_at_call 18; (with_reducible refine (T17.out _).mono ?_); rintro e w17 ⟨rfl, m17, rfl⟩)
          | (go_at_call 18; (with_reducible refine (T19.out _).mono ?_); rintro e w19 ⟨rfl, m19, rfl⟩))
        have FIN : Hid (∀ n, WX ((W1.drewN n).setCell ⟨w.heap.size + 1, i, none⟩ (.int .u32 z3)) (w.heap.size + 1) 47 (Dg.wb b (i + 1)) ∧ WX ((W1.drewN n).setCell ⟨w.heap.size + 1, i, none⟩ (.int .u32 z3)) w.heap.size 47 (List.replicate 64 0) ∧ Below w.heap.size w ((W1.drewN n).setCell ⟨w.heap.size + 1, i, none⟩ (.int .u32 z3))) := fun n => by
          have h := WX.set (BX.drewN hx1 n) i z3
          rw [HS.out] at h
          exact ⟨h, BX.other (BX.drewN hx2 n) (by omega) _, (below_drewN hb1 n).setCell (show w.heap.size ≤ w.heap.size + 1 by omega) _⟩
        clear hx1 hx2 hb1 KEEP cz fz c16' c7'
        go_wp2
        go_roundw
        case rel => exact ⟨i + 1, by omega, by go_num, (FIN.out _).1, (FIN.out _).2.1, (FIN.out _).2.2⟩
        case measure => simp [intOf]; omega
    · have e : i = 64 := by omega
      subst e
      have hx := HX.out
      rw [Dg.wb_all] at hx
      have hl64 := Dg.wl_len b 64
      have ti : (Tryd.prog.info? 47).map (·.size) = some 64 := by kernel_rfl
      go_upto_region 9 with (fail)
      refine wp_region_lit ?_
      refine wpList_load_mid rfl 47 (.tmp 3) rfl (w.heap.size + 1) 0 rfl ((Dg.wl b 64).map vw) _ (WX.range hx) Tryd.underlying47 rfl (by rw [List.length_map, hl64]; exact ti) ?_
      refine wpList_store_mid rfl 47 (.tmp 2) (.tmp 85) rfl w.heap.size 0 ((Dg.wl b 64).map vw).toArray rfl rfl (by simpa [hl64] using WX.there HX0.out) (by simpa [hl64] using ti) (all_oneCell_toArray (vw_one _)) ?_
      refine wpList_nil ?_
      have hx2 : WX (wr.setCells w.heap.size 0 ((Dg.wl b 64).map vw).toArray.toList) w.heap.size 47 (Dg.wl b 64) := by
        have := WX.sets HX0.out (l' := Dg.wl b 64) (by rw [hl64]; simp)
        simpa using this
      have hb2 : Below w.heap.size w (wr.setCells w.heap.size 0 ((Dg.wl b 64).map vw).toArray.toList) := below_sets (Nat.le_refl _) _ _ HB.out
      have rl := run_loadVar_mid (P := Tryd.prog) _ w.heap.size 0 47 _ _ (WX.range hx2) Tryd.underlying47 rfl (by rw [List.length_map, hl64]; exact ti)
      have RL := Lib.hid rl; have HB2 := Lib.hid hb2
      clear rl hb2 hx2 hx
      generalize wr.setCells w.heap.size 0 ((Dg.wl b 64).map vw).toArray.toList = W2 at *
      obtain ⟨V, hV⟩ : ∃ V, Value.agg ((Dg.wl b 64).map vw).toArray = V := ⟨_, rfl⟩
      have HV := Lib.hid hV
      rw [hV] at RL ⊢
      clear hV
      go_wp2
      refine bodyPost_ret (v := V) ?_ rfl ⟨by rw [HV.out], HB2.out⟩
      exact results_cell rfl _ _ ⟨w.heap.size, 0, none⟩ V rfl RL.out
end Go.Proofs.YtfggknplekiaoaaDoor
