/- LAYER 12: a round's numbers, the digest's bytes, boxes of bytes. -/
import Derived.Test.YtfggknplekiaoaaDoorD12e
namespace Go.Proofs.YtfggknplekiaoaaDoor
open Go Go.RowKit
set_option maxHeartbeats 2000000
set_option maxRecDepth 100000
set_option linter.unusedVariables false
namespace Dg
theorem w32 {a b : Nat} (z : Nat) (h : (a + b) % 4294967296 = z) : IntKind.u32.wrap ((a : Int) + (b : Int)) = (z : Int) := by
  rw [IntKind.wrap_u32', ← Int.natCast_add, ← h]; rfl
theorem rs_step (w : List Nat) (s : St) (i : Nat) : rs w s (i + 1) = round (rs w s i) (K.getD i 0) (w.getD i 0) := rfl
theorem t1_nums {s : St} (h : s.ok) {k w : Nat} (hk : k < 4294967296) (hw : w < 4294967296) : ∃ r6 r11 r25 x1 x2 z1 f1 ne f2 c z2 z3 t : Nat,
    rot s.e 6 = r6 ∧ rot s.e 11 = r11 ∧ rot s.e 25 = r25 ∧ bits .xor .u32 (r6 : Int) (r11 : Int) = (x1 : Int) ∧ bits .xor .u32 (x1 : Int) (r25 : Int) = (x2 : Int) ∧
    IntKind.u32.wrap ((s.h : Int) + (x2 : Int)) = (z1 : Int) ∧ bits .and .u32 (s.e : Int) (s.f : Int) = (f1 : Int) ∧ bits .xor .u32 IntKind.u32.max (s.e : Int) = (ne : Int) ∧ bits .and .u32 (ne : Int) (s.g : Int) = (f2 : Int) ∧ bits .xor .u32 (f1 : Int) (f2 : Int) = (c : Int) ∧
    IntKind.u32.wrap ((z1 : Int) + (c : Int)) = (z2 : Int) ∧ IntKind.u32.wrap ((z2 : Int) + (k : Int)) = (z3 : Int) ∧ IntKind.u32.wrap ((z3 : Int) + (w : Int)) = (t : Int) ∧ t1 s k w = t ∧ t < 4294967296 ∧ ((z1 : Int) + (c : Int) + (k : Int) + (w : Int)) % 4294967296 = (t : Int) := by
  obtain ⟨ha, hb, hc, hd, he, hf, hg, hh⟩ := h
  have r6 := rot_lt 6 he; have r11 := rot_lt 11 he; have r25 := rot_lt 25 he
  have hn : 4294967295 - s.e < 4294967296 := by omega
  refine ⟨_, _, _, _, _, (s.h + S1 s.e) % 4294967296, _, _, _, _, ((s.h + S1 s.e) % 4294967296 + ch s.e s.f s.g) % 4294967296, (((s.h + S1 s.e) % 4294967296 + ch s.e s.f s.g) % 4294967296 + k) % 4294967296, t1 s k w, rfl, rfl, rfl, u32_xor_nat _ _ r6 r11, u32_xor_nat _ _ (xor_lt r6 r11) r25, w32 _ rfl, u32_and_nat _ _ he hf, turn_all he, u32_and_nat _ _ hn hg, u32_xor_nat _ _ (and_lt hf) (and_lt hg), w32 _ rfl, w32 _ rfl, w32 _ ?_, rfl, Nat.mod_lt _ (by omega), ?_⟩
  · unfold t1
    generalize S1 s.e = x
    generalize ch s.e s.f s.g = y
    omega
  · unfold t1
    show (((s.h + S1 s.e) % 4294967296 : Nat) + ((ch s.e s.f s.g : Nat) : Int) + k + w) % 4294967296 = _
    generalize S1 s.e = x
    generalize ch s.e s.f s.g = y
    omega
theorem t2_nums {s : St} (h : s.ok) : ∃ r2 r13 r22 x1 x2 f1 f2 f3 c1 c2 t : Nat,
    rot s.a 2 = r2 ∧ rot s.a 13 = r13 ∧ rot s.a 22 = r22 ∧ bits .xor .u32 (r2 : Int) (r13 : Int) = (x1 : Int) ∧ bits .xor .u32 (x1 : Int) (r22 : Int) = (x2 : Int) ∧
    bits .and .u32 (s.a : Int) (s.b : Int) = (f1 : Int) ∧ bits .and .u32 (s.a : Int) (s.c : Int) = (f2 : Int) ∧ bits .and .u32 (s.b : Int) (s.c : Int) = (f3 : Int) ∧ bits .xor .u32 (f1 : Int) (f2 : Int) = (c1 : Int) ∧ bits .xor .u32 (c1 : Int) (f3 : Int) = (c2 : Int) ∧
    IntKind.u32.wrap ((x2 : Int) + (c2 : Int)) = (t : Int) ∧ t2 s = t ∧ t < 4294967296 := by
  obtain ⟨ha, hb, hc, hd, he, hf, hg, hh⟩ := h
  have r2 := rot_lt 2 ha; have r13 := rot_lt 13 ha; have r22 := rot_lt 22 ha
  exact ⟨_, _, _, _, _, _, _, _, _, _, t2 s, rfl, rfl, rfl, u32_xor_nat _ _ r2 r13, u32_xor_nat _ _ (xor_lt r2 r13) r22, u32_and_nat _ _ ha hb, u32_and_nat _ _ ha hc, u32_and_nat _ _ hb hc, u32_xor_nat _ _ (and_lt hb) (and_lt hc), u32_xor_nat _ _ (xor_lt (and_lt hb) (and_lt hc)) (and_lt hc), w32 _ rfl, rfl, Nat.mod_lt _ (by omega)⟩
theorem round_eq {s : St} {k w t t' z1 z2 : Nat} (h1 : t1 s k w = t) (h2 : t2 s = t') (e1 : (t + t') % 4294967296 = z1) (e2 : (s.d + t) % 4294967296 = z2) : (round s k w).l = [z1, s.a, s.b, s.c, z2, s.e, s.f, s.g] := by
  show [(t1 s k w + t2 s) % 4294967296, s.a, s.b, s.c, (s.d + t1 s k w) % 4294967296, s.e, s.f, s.g] = _
  rw [h1, h2, e1, e2]
theorem out_len (s : St) : (out s).length = 32 := rfl
theorem out_at (s : St) {i : Nat} (h : i < 32) : (out s).getD i 0 = ((s.l.getD (i / 4) 0 / 2 ^ (24 - 8 * (i % 4)) % 256 : Nat) : Int) := by
  rcases (by omega : i = 0 ∨ i = 1 ∨ i = 2 ∨ i = 3 ∨ i = 4 ∨ i = 5 ∨ i = 6 ∨ i = 7 ∨ i = 8 ∨ i = 9 ∨ i = 10 ∨ i = 11 ∨ i = 12 ∨ i = 13 ∨ i = 14 ∨ i = 15 ∨ i = 16 ∨ i = 17 ∨ i = 18 ∨ i = 19 ∨ i = 20 ∨ i = 21 ∨ i = 22 ∨ i = 23 ∨ i = 24 ∨ i = 25 ∨ i = 26 ∨ i = 27 ∨ i = 28 ∨ i = 29 ∨ i = 30 ∨ i = 31) with rfl | rfl | rfl | rfl | rfl | rfl | rfl | rfl | rfl | rfl | rfl | rfl | rfl | rfl | rfl | rfl | rfl | rfl | rfl | rfl | rfl | rfl | rfl | rfl | rfl | rfl | rfl | rfl | rfl | rfl | rfl | rfl <;> simp [out, w4, St.l]
theorem out_byt (s : St) : Byt (out s) := fun i => by
  by_cases h : i < 32
  · rw [out_at s h]; omega
  · rw [List.getD_eq_getElem?_getD, List.getElem?_eq_none (by rw [out_len]; omega)]; decide
/-- Bytes laid one by one over noughts. -/
def layi (l : List Int) (n i : Nat) : List Int := l.take i ++ List.replicate (n - i) 0
theorem layi_len {l : List Int} {n i : Nat} (h : l.length = n) (hi : i ≤ n) : (layi l n i).length = n := by unfold layi; rw [List.length_append, List.length_take, List.length_replicate]; omega
theorem layi_all {l : List Int} {n : Nat} (h : l.length = n) : layi l n n = l := by unfold layi; rw [Nat.sub_self, List.take_of_length_le (by omega)]; simp
theorem layi_set {l : List Int} {n i : Nat} (h : l.length = n) (hi : i < n) : (layi l n i).set i (l.getD i 0) = layi l n (i + 1) := by
  unfold layi
  rw [List.set_append_right _ _ (by rw [List.length_take]; omega), List.length_take, show i - min i l.length = 0 from by omega, show n - i = (n - (i + 1)) + 1 from by omega, List.replicate_succ, List.set_cons_zero]
  rw [List.take_add_one, show l[i]? = some (l.getD i 0) from by simp [List.getD, show i < l.length from by omega]]
  simp
end Dg
def vb (x : Int) : Value := .int .u8 x
/-- THE BLOCK a IS A BOX OF THE BYTES l. -/
def YX (w : World) (a : Nat) (T : TypeId) (l : List Int) : Prop := BX w a T (l.map vb).toArray
theorem vb_one (l : List Int) : ∀ v ∈ l.map vb, v.oneCell' = true := by
  intro v hv
  obtain ⟨x, _, rfl⟩ := List.mem_map.1 hv
  rfl
section
variable {w w' : World} {a b B j : Nat} {T : TypeId} {l : List Int}
theorem YX.cell (h : YX w a T l) (hj : j < l.length) : w.cell? ⟨a, j, none⟩ = some (.int .u8 (l.getD j 0)) := by
  refine BX.cell h ?_
  simp [vb, List.getD, hj]
theorem YX.set (h : YX w a T l) (j : Nat) (x : Int) : YX (w.setCell ⟨a, j, none⟩ (.int .u8 x)) a T (l.set j x) := by
  have := BX.set h j (.int .u8 x)
  unfold YX
  rwa [List.setIfInBounds_toArray, ← show vb x = .int .u8 x from rfl, ← List.map_set] at this
theorem YX.range (h : YX w a T l) : w.rangeAt a 0 (l.map vb) := fun j v hv => by
  rw [Nat.zero_add]
  exact BX.cell h (by rw [List.getElem?_toArray]; exact hv)
theorem YX.there (h : YX w a T l) : w.there a 0 l.length := fun j hj => by
  rw [Nat.zero_add]
  exact ⟨by rw [h.cell hj]; rfl, BX.free h j⟩
end
theorem YX.sets {w : World} {a : Nat} {T : TypeId} {l l' : List Int} (h : YX w a T l) (hl : l'.length = l.length) : YX (w.setCells a 0 (l'.map vb)) a T l' := by
  have h0 : BX w a T ([] ++ l.map vb ++ []).toArray := by rw [List.nil_append, List.append_nil]; exact h
  have := bx_sets (l'.map vb) w [] (l.map vb) [] h0 (by simp [hl])
  rw [List.nil_append, List.append_nil] at this
  exact this
end Go.Proofs.YtfggknplekiaoaaDoor
