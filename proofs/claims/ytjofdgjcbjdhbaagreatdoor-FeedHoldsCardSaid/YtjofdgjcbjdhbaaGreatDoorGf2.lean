/- WALKS OF LAYER 10, FIRST PART: where a feed stands in memory. -/
import Derived.Test.YtjofdgjcbjdhbaaGreatDoorGf1
import Derived.Test.YtjofdgjcbjdhbaaGreatDoorGa1
import Derived.Deep.RegionHeld3
import Derived.StillTailTactics
import Derived.Test.YtjofdgjcbjdhbaaGreatDoorGh2
import Derived.Test.YtjofdgjcbjdhbaaGreatDoorGb8
import Derived.Test.YtjofdgjcbjdhbaaGreatDoorGe2
namespace Go.Proofs.YtjofdgjcbjdhbaaGreatDoor
open Go Go.RowKit
set_option maxHeartbeats 4000000
set_option maxRecDepth 100000
set_option linter.unusedVariables false
theorem ne_rec_feed : (128 : TypeId) ≠ 69 := by decide
theorem ne_mem_feed : (44 : TypeId) ≠ 69 := by decide
def u8s (ys : List Int) : List Value := ys.map fun z => .int .u8 z
def hcs (h : Fd.Hd) : List Value := [.string h.p, .string h.nm, .int .i64 h.m, .int .i64 h.u, .int .i64 h.g, .int .i64 h.t, .int .i64 h.z, .int .u8 h.k, .string h.l]
def flo (s : Fd.S) : List Value := [.bool true, .int .i64 (s.at_ : Int), .int .i64 (s.fr : Int), .int .i64 (s.mrk : Int), .int .i64 (s.ct : Int), .bool s.dn, .int .i64 s.st]
def fhi (s : Fd.S) (al nx : Value) : List Value := [.int .i64 (s.has : Int), .int .i64 (s.nd : Int), .string s.h.p, .string s.h.nm, .int .i64 s.h.m, .int .i64 s.h.u, .int .i64 s.h.g, .int .i64 s.h.t, .int .i64 s.h.z, .int .u8 s.h.k, .string s.h.l, al, nx]
/-- A feed's cells. -/
def fcs (s : Fd.S) (al nx : Value) : List Value := flo s ++ (u8s s.ys ++ fhi s al nx)
section
variable {s s' : Fd.S} {al nx al' nx' : Value} {j : Nat} {v : Value}
theorem u8s_len (ys : List Int) : (u8s ys).length = ys.length := by simp [u8s]
theorem fcs_lo (h : (flo s)[j]? = some v) : (fcs s al nx).toArray[j]? = some v := by
  have hj := (List.getElem?_eq_some_iff.1 h).1
  rw [List.getElem?_toArray]
  unfold fcs
  rw [List.getElem?_append_left hj]
  exact h
theorem fcs_hi (hl : s.ys.length = 4608) (h : (fhi s al nx)[j]? = some v) : (fcs s al nx).toArray[4615 + j]? = some v := by
  rw [List.getElem?_toArray]
  unfold fcs
  rw [List.getElem?_append_right (by show 7 ≤ 4615 + j; omega), show 4615 + j - (flo s).length = 4608 + j by show 4615 + j - 7 = 4608 + j; omega, List.getElem?_append_right (by rw [u8s_len]; omega), u8s_len, hl, show 4608 + j - 4608 = j by omega]
  exact h
theorem fcs_b (hj : j < s.ys.length) : (fcs s al nx).toArray[7 + j]? = some (.int .u8 (s.ys.getD j 0)) := by
  rw [List.getElem?_toArray]
  unfold fcs
  rw [List.getElem?_append_right (by show 7 ≤ 7 + j; omega), show 7 + j - (flo s).length = j by show 7 + j - 7 = j; omega, List.getElem?_append_left (by rw [u8s_len]; exact hj)]
  simp [u8s, List.getD_eq_getElem?_getD, List.getElem?_eq_getElem hj]
theorem fcs_set_lo (hj : j < 7) (e1 : (flo s).set j v = flo s') (e2 : s'.ys = s.ys) (e3 : fhi s' al nx = fhi s al nx) : (fcs s al nx).toArray.setIfInBounds j v = (fcs s' al nx).toArray := by
  rw [List.setIfInBounds_toArray]
  unfold fcs
  rw [List.set_append_left _ _ (show j < (flo s).length from hj), e1, e2, e3]
theorem fcs_set_hi (hl : s.ys.length = 4608) (e0 : flo s' = flo s) (e1 : (fhi s al nx).set j v = fhi s' al' nx') (e2 : s'.ys = s.ys) : (fcs s al nx).toArray.setIfInBounds (4615 + j) v = (fcs s' al' nx').toArray := by
  rw [List.setIfInBounds_toArray]
  unfold fcs
  rw [List.set_append_right _ _ (by show 7 ≤ 4615 + j; omega), show 4615 + j - (flo s).length = 4608 + j by show 4615 + j - 7 = 4608 + j; omega, List.set_append_right _ _ (by rw [u8s_len]; omega), u8s_len, hl, show 4608 + j - 4608 = j by omega, e0, e1, e2]
theorem fcs_splice (hl : s.ys.length = 4608) (k : Nat) (zs : List Int) (hk : k + zs.length ≤ 4608) : splice (fcs s al nx) (7 + k) (u8s zs) = fcs { s with ys := s.ys.take k ++ zs ++ s.ys.drop (k + zs.length) } al nx := by
  unfold splice fcs
  have hf : (flo s).length = 7 := rfl
  rw [List.take_append, List.drop_append, hf, show 7 + k - 7 = k by omega, show 7 + k + (u8s zs).length - 7 = k + zs.length by rw [u8s_len]; omega, List.take_of_length_le (by rw [hf]; omega), List.drop_eq_nil_of_le (show (flo s).length ≤ 7 + k + (u8s zs).length by rw [hf]; omega), List.take_append_of_le_length (by rw [u8s_len]; omega), List.drop_append_of_le_length (by rw [u8s_len]; omega)]
  show flo s ++ (u8s s.ys).take k ++ (u8s zs ++ ([] ++ ((u8s s.ys).drop (k + zs.length) ++ fhi s al nx))) = flo s ++ (u8s (s.ys.take k ++ zs ++ s.ys.drop (k + zs.length)) ++ fhi s al nx)
  unfold u8s
  simp only [List.map_append, List.map_take, List.map_drop, List.append_assoc, List.nil_append]
end
/-- WHERE A FEED STANDS, in memory: the box a, two rows of records of the call's own. -/
structure Fs (w : World) (B a : Nat) (al nx : Value) (s : Fd.S) : Prop where
  box : BX w a 69 (fcs s al nx).toArray
  ba : B ≤ a
  len : s.ys.length = 4608
  byt : Byt s.ys
  hal : w.ownsRow B 128 2 al s.al.length (cells2 s.al)
  hnx : w.ownsRow B 128 2 nx s.nx.length (cells2 s.nx)
section
variable {w w' : World} {B a : Nat} {al nx : Value} {s s' : Fd.S} {v : Value}
theorem Fs.lo (h : Fs w B a al nx s) : w.cell? ⟨a, 0, none⟩ = some (.bool true) ∧ w.cell? ⟨a, 1, none⟩ = some (.int .i64 (s.at_ : Int)) ∧ w.cell? ⟨a, 2, none⟩ = some (.int .i64 (s.fr : Int)) ∧ w.cell? ⟨a, 3, none⟩ = some (.int .i64 (s.mrk : Int)) ∧ w.cell? ⟨a, 4, none⟩ = some (.int .i64 (s.ct : Int)) ∧ w.cell? ⟨a, 5, none⟩ = some (.bool s.dn) ∧ w.cell? ⟨a, 6, none⟩ = some (.int .i64 s.st) :=
  ⟨h.box.cell (fcs_lo rfl), h.box.cell (fcs_lo rfl), h.box.cell (fcs_lo rfl), h.box.cell (fcs_lo rfl), h.box.cell (fcs_lo rfl), h.box.cell (fcs_lo rfl), h.box.cell (fcs_lo rfl)⟩
theorem Fs.top (h : Fs w B a al nx s) : w.cell? ⟨a, 4615, none⟩ = some (.int .i64 (s.has : Int)) ∧ w.cell? ⟨a, 4616, none⟩ = some (.int .i64 (s.nd : Int)) ∧ w.cell? ⟨a, 4626, none⟩ = some al ∧ w.cell? ⟨a, 4627, none⟩ = some nx :=
  ⟨h.box.cell (fcs_hi (j := 0) h.len rfl), h.box.cell (fcs_hi (j := 1) h.len rfl), h.box.cell (fcs_hi (j := 11) h.len rfl), h.box.cell (fcs_hi (j := 12) h.len rfl)⟩
theorem Fs.hd (h : Fs w B a al nx s) : w.cell? ⟨a, 4617, none⟩ = some (.string s.h.p) ∧ w.cell? ⟨a, 4618, none⟩ = some (.string s.h.nm) ∧ w.cell? ⟨a, 4619, none⟩ = some (.int .i64 s.h.m) ∧ w.cell? ⟨a, 4620, none⟩ = some (.int .i64 s.h.u) ∧ w.cell? ⟨a, 4621, none⟩ = some (.int .i64 s.h.g) ∧ w.cell? ⟨a, 4622, none⟩ = some (.int .i64 s.h.t) ∧ w.cell? ⟨a, 4623, none⟩ = some (.int .i64 s.h.z) ∧ w.cell? ⟨a, 4624, none⟩ = some (.int .u8 s.h.k) ∧ w.cell? ⟨a, 4625, none⟩ = some (.string s.h.l) :=
  ⟨h.box.cell (fcs_hi (j := 2) h.len rfl), h.box.cell (fcs_hi (j := 3) h.len rfl), h.box.cell (fcs_hi (j := 4) h.len rfl), h.box.cell (fcs_hi (j := 5) h.len rfl), h.box.cell (fcs_hi (j := 6) h.len rfl), h.box.cell (fcs_hi (j := 7) h.len rfl), h.box.cell (fcs_hi (j := 8) h.len rfl), h.box.cell (fcs_hi (j := 9) h.len rfl), h.box.cell (fcs_hi (j := 10) h.len rfl)⟩
/-- The box turned, all else as it was. -/
theorem Fs.oth (h : Fs w B a al nx s) (ho : Oth a w w') (hb : BX w' a 69 (fcs s' al nx).toArray) (e2 : s'.ys.length = 4608) (e3 : Byt s'.ys) (e4 : s'.al = s.al) (e5 : s'.nx = s.nx) : Fs w' B a al nx s' where
  box := hb
  ba := h.ba
  len := e2
  byt := e3
  hal := by rw [e4]; exact owns_keep h.hal fun k hk => ho.2.2.2.2 k (owns_lt h.hal hk) (owns_box h.hal h.box ne_rec_feed hk)
  hnx := by rw [e5]; exact owns_keep h.hnx fun k hk => ho.2.2.2.2 k (owns_lt h.hnx hk) (owns_box h.hnx h.box ne_rec_feed hk)
theorem Fs.below (h : Fs w B a al nx s) (hb : Below w.heap.size w w') : Fs w' B a al nx s := h.oth (Oth.ofBelow hb) (h.box.later hb) h.len h.byt rfl rfl
theorem Fs.set_lo (h : Fs w B a al nx s) (j : Nat) (v : Value) (s' : Fd.S) (hj : j < 7) (e1 : (flo s).set j v = flo s') (e2 : s'.ys = s.ys) (e3 : fhi s' al nx = fhi s al nx) (e4 : s'.al = s.al) (e5 : s'.nx = s.nx) : Fs (w.setCell ⟨a, j, none⟩ v) B a al nx s' :=
  h.oth (Oth.setCell (Oth.refl a w) j v) (by have := h.box.set j v; rwa [fcs_set_lo hj e1 e2 e3] at this) (by rw [e2]; exact h.len) (by rw [e2]; exact h.byt) e4 e5
theorem Fs.set_hi (h : Fs w B a al nx s) (j : Nat) (v : Value) (s' : Fd.S) (e0 : flo s' = flo s) (e1 : (fhi s al nx).set j v = fhi s' al nx) (e2 : s'.ys = s.ys) (e4 : s'.al = s.al) (e5 : s'.nx = s.nx) : Fs (w.setCell ⟨a, 4615 + j, none⟩ v) B a al nx s' :=
  h.oth (Oth.setCell (Oth.refl a w) _ v) (by have := h.box.set (4615 + j) v; rwa [fcs_set_hi h.len e0 e1 e2] at this) (by rw [e2]; exact h.len) (by rw [e2]; exact h.byt) e4 e5
/-- Other records. -/
theorem Fs.set_al (h : Fs w B a al nx s) (v : Value) (l : List Rc.Rec) (hv : w.ownsRow B 128 2 v l.length (cells2 l)) : Fs (w.setCell ⟨a, 4626, none⟩ v) B a v nx { s with al := l } where
  box := by have := h.box.set (4615 + 11) v; rwa [fcs_set_hi (s' := { s with al := l }) (al' := v) (nx' := nx) h.len rfl rfl rfl] at this
  ba := h.ba
  len := h.len
  byt := h.byt
  hal := owns_keep hv fun k hk => heap_setCell_other w ⟨a, 4626, none⟩ k v (owns_box hv h.box ne_rec_feed hk)
  hnx := owns_keep h.hnx fun k hk => heap_setCell_other w ⟨a, 4626, none⟩ k v (owns_box h.hnx h.box ne_rec_feed hk)
theorem Fs.set_nx (h : Fs w B a al nx s) (v : Value) (l : List Rc.Rec) (hv : w.ownsRow B 128 2 v l.length (cells2 l)) : Fs (w.setCell ⟨a, 4627, none⟩ v) B a al v { s with nx := l } where
  box := by have := h.box.set (4615 + 12) v; rwa [fcs_set_hi (s' := { s with nx := l }) (al' := al) (nx' := v) h.len rfl rfl rfl] at this
  ba := h.ba
  len := h.len
  byt := h.byt
  hal := owns_keep h.hal fun k hk => heap_setCell_other w ⟨a, 4627, none⟩ k v (owns_box h.hal h.box ne_rec_feed hk)
  hnx := owns_keep hv fun k hk => heap_setCell_other w ⟨a, 4627, none⟩ k v (owns_box hv h.box ne_rec_feed hk)
/-- A header laid. -/
theorem Fs.set_hd (h : Fs w B a al nx s) (x : Fd.Hd) : Fs (((((((((w.setCell ⟨a, 4617, none⟩ (.string x.p)).setCell ⟨a, 4618, none⟩ (.string x.nm)).setCell ⟨a, 4619, none⟩ (.int .i64 x.m)).setCell ⟨a, 4620, none⟩ (.int .i64 x.u)).setCell ⟨a, 4621, none⟩ (.int .i64 x.g)).setCell ⟨a, 4622, none⟩ (.int .i64 x.t)).setCell ⟨a, 4623, none⟩ (.int .i64 x.z)).setCell ⟨a, 4624, none⟩ (.int .u8 x.k)).setCell ⟨a, 4625, none⟩ (.string x.l)) B a al nx { s with h := x } :=
  ((((((((h.set_hi 2 _ { s with h := { s.h with p := x.p } } rfl rfl rfl rfl rfl).set_hi 3 _ { s with h := { s.h with p := x.p, nm := x.nm } } rfl rfl rfl rfl rfl).set_hi 4 _ { s with h := { s.h with p := x.p, nm := x.nm, m := x.m } } rfl rfl rfl rfl rfl).set_hi 5 _ { s with h := { s.h with p := x.p, nm := x.nm, m := x.m, u := x.u } } rfl rfl rfl rfl rfl).set_hi 6 _ { s with h := { s.h with p := x.p, nm := x.nm, m := x.m, u := x.u, g := x.g } } rfl rfl rfl rfl rfl).set_hi 7 _ { s with h := { s.h with p := x.p, nm := x.nm, m := x.m, u := x.u, g := x.g, t := x.t } } rfl rfl rfl rfl rfl).set_hi 8 _ { s with h := { s.h with p := x.p, nm := x.nm, m := x.m, u := x.u, g := x.g, t := x.t, z := x.z } } rfl rfl rfl rfl rfl).set_hi 9 _ { s with h := { s.h with p := x.p, nm := x.nm, m := x.m, u := x.u, g := x.g, t := x.t, z := x.z, k := x.k } } rfl rfl rfl rfl rfl).set_hi 10 _ { s with h := x } rfl rfl rfl rfl rfl
theorem oth_hd {w0 : World} (h : Oth a w0 w) (x : Fd.Hd) : Oth a w0 (((((((((w.setCell ⟨a, 4617, none⟩ (.string x.p)).setCell ⟨a, 4618, none⟩ (.string x.nm)).setCell ⟨a, 4619, none⟩ (.int .i64 x.m)).setCell ⟨a, 4620, none⟩ (.int .i64 x.u)).setCell ⟨a, 4621, none⟩ (.int .i64 x.g)).setCell ⟨a, 4622, none⟩ (.int .i64 x.t)).setCell ⟨a, 4623, none⟩ (.int .i64 x.z)).setCell ⟨a, 4624, none⟩ (.int .u8 x.k)).setCell ⟨a, 4625, none⟩ (.string x.l)) :=
  ((((((((h.setCell _ _).setCell _ _).setCell _ _).setCell _ _).setCell _ _).setCell _ _).setCell _ _).setCell _ _).setCell _ _
/-- Bytes of the buffer. -/
theorem Fs.buf (h : Fs w B a al nx s) (k n : Nat) (hk : k + n ≤ 4608) : RB w w.heap.size (some ⟨a, 7 + k, none⟩) n ((s.ys.drop k).take n) := by
  have hl := h.len
  refine ⟨by rw [List.length_take, List.length_drop]; omega, fun hn => ⟨a, 7 + k, rfl, h.box.lt, fun j hj => ?_⟩⟩
  rw [Nat.add_assoc, h.box.cell (fcs_b (j := k + j) (by omega))]
  simp [List.getD_eq_getElem?_getD, hj]
end
end Go.Proofs.YtjofdgjcbjdhbaaGreatDoor
/- WALKS OF LAYER 10, SECOND PART: the small methods: clear, isMade, isBroken, halt, lacks, New, Held, Mark, At, Count, Close, Done. -/
namespace Go.Proofs.YtjofdgjcbjdhbaaGreatDoor
open Go Go.RowKit
set_option maxHeartbeats 8000000
set_option maxRecDepth 100000
set_option linter.unusedVariables false
section
variable {w : World} {B a : Nat} {al nx : Value} {s : Fd.S} {v : Int}
theorem clr_eq (h : Fs w B a al nx s) : Fs ((((((((((((w.setCell ⟨a, 4615, none⟩ (.int .i64 0)).setCell ⟨a, 4616, none⟩ (.int .i64 512)).setCell ⟨a, 4617, none⟩ (.string ⟨#[]⟩)).setCell ⟨a, 4618, none⟩ (.string ⟨#[]⟩)).setCell ⟨a, 4619, none⟩ (.int .i64 0)).setCell ⟨a, 4620, none⟩ (.int .i64 0)).setCell ⟨a, 4621, none⟩ (.int .i64 0)).setCell ⟨a, 4622, none⟩ (.int .i64 0)).setCell ⟨a, 4623, none⟩ (.int .i64 0)).setCell ⟨a, 4624, none⟩ (.int .u8 0)).setCell ⟨a, 4625, none⟩ (.string ⟨#[]⟩))) B a al nx (Fd.clr s) :=
  ((h.set_hi 0 (.int .i64 0) { s with has := 0 } rfl rfl rfl rfl rfl).set_hi 1 (.int .i64 512) { s with has := 0, nd := 512 } rfl rfl rfl rfl rfl).set_hd Fd.h0
theorem clr_oth (w : World) (a : Nat) : Oth a w ((((((((((((w.setCell ⟨a, 4615, none⟩ (.int .i64 0)).setCell ⟨a, 4616, none⟩ (.int .i64 512)).setCell ⟨a, 4617, none⟩ (.string ⟨#[]⟩)).setCell ⟨a, 4618, none⟩ (.string ⟨#[]⟩)).setCell ⟨a, 4619, none⟩ (.int .i64 0)).setCell ⟨a, 4620, none⟩ (.int .i64 0)).setCell ⟨a, 4621, none⟩ (.int .i64 0)).setCell ⟨a, 4622, none⟩ (.int .i64 0)).setCell ⟨a, 4623, none⟩ (.int .i64 0)).setCell ⟨a, 4624, none⟩ (.int .u8 0)).setCell ⟨a, 4625, none⟩ (.string ⟨#[]⟩))) :=
  oth_hd (((Oth.refl a w).setCell _ _).setCell _ _) Fd.h0
theorem clear_any10 (h : Fs w B a al nx s) :
    Calls Tryz.prog 34 #[.pointer (some ⟨a, 7, none⟩)] w fun e w' => e = .returned (.tuple #[]) ∧ Fs w' B a al nx (Fd.clr s) ∧ Oth a w w' := by
  have FIN := Lib.hid (And.intro (clr_eq h) (clr_oth w a))
  have FR := fun j => h.box.free j
  have z0 := FR 4615; have z1 := FR 4616; have z2 := FR 4617; have z3 := FR 4618; have z4 := FR 4619; have z5 := FR 4620; have z6 := FR 4621; have z7 := FR 4622; have z8 := FR 4623; have z9 := FR 4624; have z10 := FR 4625
  have k0 := h.top.1; have k1 := h.top.2.1
  obtain ⟨q0, q1, q2, q3, q4, q5, q6, q7, q8⟩ := h.hd
  clear h FR
  go_enter Tryz.func34, Tryz.ntmps34
  go_wp2
  refine bodyPost_end (v := .tuple #[]) (by simp [results, Tryz.f34, go_sem]) rfl ?_
  exact ⟨rfl, FIN.out.1, FIN.out.2⟩
theorem made_cell {b : Bool} (h : w.cell? ⟨a, 0, none⟩ = some (.bool b)) :
    Calls Tryz.prog 35 #[.pointer (some ⟨a, 0, none⟩)] w fun e w' => e = .returned (.bool b) ∧ w = w' := by
  go_enter Tryz.func35, Tryz.ntmps35
  go_wp2
  go_ret
  exact ⟨rfl, rfl⟩
theorem made_nil (w : World) : Calls Tryz.prog 35 #[.pointer none] w fun e w' => e = .returned (.bool false) ∧ w = w' := by
  go_enter Tryz.func35, Tryz.ntmps35
  go_wp2
  go_ret
  exact ⟨rfl, rfl⟩
theorem made_not (w : World) (x : Option Addr) (h : ∀ b : Addr, x = some b → w.cell? b = some (.bool false) ∧ b.spot = none) : Calls Tryz.prog 35 #[.pointer x] w fun e w' => e = .returned (.bool false) ∧ w = w' := by
  cases x with
  | none => exact made_nil w
  | some b =>
    obtain ⟨k, sp⟩ := h b rfl
    obtain ⟨i, o, z⟩ := b
    obtain rfl : z = none := sp
    clear h
    go_enter Tryz.func35, Tryz.ntmps35
    go_wp2
    go_ret
    exact ⟨rfl, rfl⟩
theorem broken_any10 {z : Int} (h : w.cell? ⟨a, 6, none⟩ = some (.int .i64 z)) :
    Calls Tryz.prog 36 #[.pointer (some ⟨a, 0, none⟩)] w fun e w' => e = .returned (.bool (decide (z ≠ 0) && decide (z ≠ 4))) ∧ w = w' := by
  by_cases h0 : z = 0
  · subst h0
    go_enter Tryz.func36, Tryz.ntmps36
    go_wp2
    go_ret
    exact ⟨rfl, rfl⟩
  · by_cases h4 : z = 4
    · subst h4
      go_enter Tryz.func36, Tryz.ntmps36
      go_wp2
      go_ret
      exact ⟨rfl, rfl⟩
    · have h0' : (z != 0) = true := by simpa using h0
      have h4' : (z != 4) = true := by simpa using h4
      have E := Lib.hid (show (decide (z ≠ 0) && decide (z ≠ 4)) = true by simp [h0, h4])
      clear h0 h4
      go_enter Tryz.func36, Tryz.ntmps36
      go_wp2
      go_ret
      exact ⟨ret_bool E.out.symm, rfl⟩
theorem lacks_any10 {n m : Nat} (h0 : w.cell? ⟨a, 4615, none⟩ = some (.int .i64 (n : Int))) (h1 : w.cell? ⟨a, 4616, none⟩ = some (.int .i64 (m : Int))) :
    Calls Tryz.prog 39 #[.pointer (some ⟨a, 7, none⟩)] w fun e w' => e = .returned (.bool (decide (n < m))) ∧ Below w.heap.size w w' := by
  go_enter Tryz.func39, Tryz.ntmps39
  go_upto_region 1 with (fail)
  go_quiet (fail)
  go_wp2
  go_ret
  exact ⟨rfl, below_drewN (Below.refl _ _) _⟩
theorem halt_eq (h : Fs w B a al nx (Fd.clr { s with st := v })) : Fs ((w.setCell ⟨a, 4626, none⟩ (.slice none 0 0)).setCell ⟨a, 4627, none⟩ (.slice none 0 0)) B a (.slice none 0 0) (.slice none 0 0) (Fd.halt s v) :=
  (h.set_al (.slice none 0 0) [] (World.ownsRow_nil _ _ _ _)).set_nx (.slice none 0 0) [] (World.ownsRow_nil _ _ _ _)
theorem halt_any10 (h : Fs w B a al nx s) (e0 : Int) (hne : e0 ≠ 0) :
    Calls Tryz.prog 37 #[.pointer (some ⟨a, 0, none⟩), .int .i64 e0] w fun e w' => e = .returned (.int .i64 (Fd.ans e0)) ∧ Fs w' B a (.slice none 0 0) (.slice none 0 0) (Fd.halt s e0) ∧ Oth a w w' := by
  have HC := Lib.hid (clear_any10 (h.set_lo 6 (.int .i64 e0) { s with st := e0 } (by decide) rfl rfl rfl rfl rfl))
  have f6 := h.box.free 6
  have k6 := h.lo.2.2.2.2.2.2
  have HS := Lib.hid ((Oth.refl a w).setCell 6 (.int .i64 e0))
  clear h
  have fin : ∀ w2, Fs w2 B a al nx (Fd.clr { s with st := e0 }) → Oth a (w.setCell ⟨a, 6, none⟩ (.int .i64 e0)) w2 → (w2.cell? ⟨a, 4626, none⟩ = some al ∧ w2.cell? ⟨a, 4627, none⟩ = some nx ∧ w2.frozen? ⟨a, 4626, none⟩ = false ∧ w2.frozen? ⟨a, 4627, none⟩ = false) ∧ Fs ((w2.setCell ⟨a, 4626, none⟩ (.slice none 0 0)).setCell ⟨a, 4627, none⟩ (.slice none 0 0)) B a (.slice none 0 0) (.slice none 0 0) (Fd.halt s e0) ∧ Oth a w ((w2.setCell ⟨a, 4626, none⟩ (.slice none 0 0)).setCell ⟨a, 4627, none⟩ (.slice none 0 0)) := fun w2 h2 h3 =>
    ⟨⟨h2.top.2.2.1, h2.top.2.2.2, h2.box.free _, h2.box.free _⟩, halt_eq h2, ((HS.out.trans h3).setCell _ _).setCell _ _⟩
  have FIN := Lib.hid fin
  clear fin
  have HBR := Lib.hid (fun (W : World) (hW : W.cell? ⟨a, 6, none⟩ = some (.int .i64 e0)) => broken_any10 hW)
  by_cases h4 : e0 = 4
  · subst h4
    go_enter Tryz.func37, Tryz.ntmps37
    go_wp2_with (first
      | (go_at_call 34; (with_reducible refine (HC.out).mono ?_); rintro e w2 ⟨rfl, hf, ho⟩; obtain ⟨⟨a0, a1, a2, a3⟩, a4, a5⟩ := FIN.out _ hf ho; have A4 := Lib.hid a4; have A5 := Lib.hid a5; clear a4 a5 hf ho)
      | (go_at_call 36; (with_reducible refine (HBR.out _ A4.out.lo.2.2.2.2.2.2).mono ?_); rintro e w3 ⟨rfl, rfl⟩))
    go_ret
    exact ⟨rfl, A4.out, A5.out⟩
  · have E := Lib.hid (show (decide (e0 ≠ 0) && decide (e0 ≠ 4)) = true by simp [hne, h4])
    have EA := Lib.hid (show Fd.ans e0 = e0 from if_neg h4)
    rw [E.out] at HBR
    rw [EA.out]
    clear hne h4
    go_enter Tryz.func37, Tryz.ntmps37
    go_wp2_with (first
      | (go_at_call 34; (with_reducible refine (HC.out).mono ?_); rintro e w2 ⟨rfl, hf, ho⟩; obtain ⟨⟨a0, a1, a2, a3⟩, a4, a5⟩ := FIN.out _ hf ho; have A4 := Lib.hid a4; have A5 := Lib.hid a5; clear a4 a5 hf ho)
      | (go_at_call 36; (with_reducible refine (HBR.out _ A4.out.lo.2.2.2.2.2.2).mono ?_); rintro e w3 ⟨rfl, rfl⟩))
    go_ret
    exact ⟨rfl, A4.out, A5.out⟩
theorem new_cells : (Tryz.zeroCells69.setIfInBounds 0 (.bool true)) = (fcs { Fd.new with nd := 0 } (.slice none 0 0) (.slice none 0 0)).toArray := by kernel_rfl
theorem new_any10 (w : World) :
    Calls Tryz.prog 20 #[] w fun e w' => e = .returned (.pointer (some ⟨w.heap.size, 0, none⟩)) ∧ Fs w' w.heap.size w.heap.size (.slice none 0 0) (.slice none 0 0) Fd.new ∧ Below w.heap.size w w' := by
  have hf : Fs (w.alloc (.cells (fcs { Fd.new with nd := 0 } (.slice none 0 0) (.slice none 0 0)).toArray 69)) w.heap.size w.heap.size (.slice none 0 0) (.slice none 0 0) { Fd.new with nd := 0 } :=
    { box := BX.new w _ _, ba := Nat.le_refl _, len := by simp [Fd.new], byt := Fd.ok_new.byt, hal := World.ownsRow_nil _ _ _ _, hnx := World.ownsRow_nil _ _ _ _ }
  have HC := Lib.hid (clear_any10 hf)
  have HB := Lib.hid (mb_new w (.cells (fcs { Fd.new with nd := 0 } (.slice none 0 0) (.slice none 0 0)).toArray 69))
  clear hf
  go_enter Tryz.func20, Tryz.ntmps20
  go_upto_region 2 with (fail)
  rw [new_cells]
  generalize (Value.agg (fcs { Fd.new with nd := 0 } (.slice none 0 0) (.slice none 0 0)).toArray) = AG
  generalize (fcs { Fd.new with nd := 0 } (.slice none 0 0) (.slice none 0 0)).toArray = CS at *
  go_wp2_with (go_at_call 34; (with_reducible refine (HC.out).mono ?_); rintro e w2 ⟨rfl, hf, ho⟩; have HF := Lib.hid hf; have HO := Lib.hid (HB.out.trans (ho.below (Nat.le_refl _) HB.out.size)); clear hf ho)
  go_ret
  exact ⟨rfl, HF.out, HO.out⟩
theorem held_any10 (h : Fs w B a al nx s) : Calls Tryz.prog 23 #[.pointer (some ⟨a, 0, none⟩)] w fun e w' => e = .returned (.int .i64 (s.has : Int)) ∧ w = w' := by
  have HM := Lib.hid (made_cell h.lo.1)
  have k := h.top.1
  clear h
  go_enter Tryz.func23, Tryz.ntmps23
  go_wp2_with (go_at_call 35; (with_reducible refine (HM.out).mono ?_); rintro e w2 ⟨rfl, rfl⟩)
  go_ret
  exact ⟨rfl, rfl⟩
theorem held_not (w : World) (x : Option Addr) (h : ∀ b : Addr, x = some b → w.cell? b = some (.bool false) ∧ b.spot = none) : Calls Tryz.prog 23 #[.pointer x] w fun e w' => e = .returned (.int .i64 0) ∧ w = w' := by
  have HM := Lib.hid (made_not w x h)
  clear h
  go_enter Tryz.func23, Tryz.ntmps23
  go_wp2_with (go_at_call 35; (with_reducible refine (HM.out).mono ?_); rintro e w2 ⟨rfl, rfl⟩)
  go_ret
  exact ⟨rfl, rfl⟩
theorem mark_any10 (h : Fs w B a al nx s) : Calls Tryz.prog 24 #[.pointer (some ⟨a, 0, none⟩)] w fun e w' => e = .returned (.int .i64 (s.mrk : Int)) ∧ w = w' := by
  have HM := Lib.hid (made_cell h.lo.1)
  have k := h.lo.2.2.2.1
  clear h
  go_enter Tryz.func24, Tryz.ntmps24
  go_wp2_with (go_at_call 35; (with_reducible refine (HM.out).mono ?_); rintro e w2 ⟨rfl, rfl⟩)
  go_ret
  exact ⟨rfl, rfl⟩
theorem mark_not (w : World) (x : Option Addr) (h : ∀ b : Addr, x = some b → w.cell? b = some (.bool false) ∧ b.spot = none) : Calls Tryz.prog 24 #[.pointer x] w fun e w' => e = .returned (.int .i64 0) ∧ w = w' := by
  have HM := Lib.hid (made_not w x h)
  clear h
  go_enter Tryz.func24, Tryz.ntmps24
  go_wp2_with (go_at_call 35; (with_reducible refine (HM.out).mono ?_); rintro e w2 ⟨rfl, rfl⟩)
  go_ret
  exact ⟨rfl, rfl⟩
theorem at_any10 (h : Fs w B a al nx s) : Calls Tryz.prog 25 #[.pointer (some ⟨a, 0, none⟩)] w fun e w' => e = .returned (.int .i64 (s.at_ : Int)) ∧ w = w' := by
  have HM := Lib.hid (made_cell h.lo.1)
  have k := h.lo.2.1
  clear h
  go_enter Tryz.func25, Tryz.ntmps25
  go_wp2_with (go_at_call 35; (with_reducible refine (HM.out).mono ?_); rintro e w2 ⟨rfl, rfl⟩)
  go_ret
  exact ⟨rfl, rfl⟩
theorem at_not (w : World) (x : Option Addr) (h : ∀ b : Addr, x = some b → w.cell? b = some (.bool false) ∧ b.spot = none) : Calls Tryz.prog 25 #[.pointer x] w fun e w' => e = .returned (.int .i64 0) ∧ w = w' := by
  have HM := Lib.hid (made_not w x h)
  clear h
  go_enter Tryz.func25, Tryz.ntmps25
  go_wp2_with (go_at_call 35; (with_reducible refine (HM.out).mono ?_); rintro e w2 ⟨rfl, rfl⟩)
  go_ret
  exact ⟨rfl, rfl⟩
theorem count_any10 (h : Fs w B a al nx s) : Calls Tryz.prog 26 #[.pointer (some ⟨a, 0, none⟩)] w fun e w' => e = .returned (.int .i64 (s.ct : Int)) ∧ w = w' := by
  have HM := Lib.hid (made_cell h.lo.1)
  have k := h.lo.2.2.2.2.1
  clear h
  go_enter Tryz.func26, Tryz.ntmps26
  go_wp2_with (go_at_call 35; (with_reducible refine (HM.out).mono ?_); rintro e w2 ⟨rfl, rfl⟩)
  go_ret
  exact ⟨rfl, rfl⟩
theorem count_not (w : World) (x : Option Addr) (h : ∀ b : Addr, x = some b → w.cell? b = some (.bool false) ∧ b.spot = none) : Calls Tryz.prog 26 #[.pointer x] w fun e w' => e = .returned (.int .i64 0) ∧ w = w' := by
  have HM := Lib.hid (made_not w x h)
  clear h
  go_enter Tryz.func26, Tryz.ntmps26
  go_wp2_with (go_at_call 35; (with_reducible refine (HM.out).mono ?_); rintro e w2 ⟨rfl, rfl⟩)
  go_ret
  exact ⟨rfl, rfl⟩
def closeS (s : Fd.S) : Int := if s.st = 0 then (if s.dn = true then 0 else 4) else s.st
theorem close_any10 (h : Fs w B a al nx s) : Calls Tryz.prog 27 #[.pointer (some ⟨a, 0, none⟩)] w fun e w' => e = .returned (.int .i64 (closeS s)) ∧ w = w' := by
  have HM := Lib.hid (made_cell h.lo.1)
  have k := h.lo.2.2.2.2.2.2
  have k2 := h.lo.2.2.2.2.2.1
  clear h
  unfold closeS
  obtain ⟨_, _, _, _, dn, st, _, _, _, _, _, _⟩ := s
  dsimp only at *
  by_cases h0 : st = 0
  · subst h0
    rw [if_pos rfl]
    cases dn with
    | true =>
      go_enter Tryz.func27, Tryz.ntmps27
      go_wp2_with (go_at_call 35; (with_reducible refine (HM.out).mono ?_); rintro e w2 ⟨rfl, rfl⟩)
      go_ret
      exact ⟨rfl, rfl⟩
    | false =>
      go_enter Tryz.func27, Tryz.ntmps27
      go_wp2_with (go_at_call 35; (with_reducible refine (HM.out).mono ?_); rintro e w2 ⟨rfl, rfl⟩)
      go_ret
      exact ⟨rfl, rfl⟩
  · rw [if_neg h0]
    have h0' : (st != 0) = true := by simpa using h0
    clear h0
    go_enter Tryz.func27, Tryz.ntmps27
    go_wp2_with (go_at_call 35; (with_reducible refine (HM.out).mono ?_); rintro e w2 ⟨rfl, rfl⟩)
    go_ret
    exact ⟨rfl, rfl⟩
theorem close_not (w : World) (x : Option Addr) (h : ∀ b : Addr, x = some b → w.cell? b = some (.bool false) ∧ b.spot = none) : Calls Tryz.prog 27 #[.pointer x] w fun e w' => e = .returned (.int .i64 2) ∧ w = w' := by
  have HM := Lib.hid (made_not w x h)
  clear h
  go_enter Tryz.func27, Tryz.ntmps27
  go_wp2_with (go_at_call 35; (with_reducible refine (HM.out).mono ?_); rintro e w2 ⟨rfl, rfl⟩)
  go_ret
  exact ⟨rfl, rfl⟩
theorem done_not (w : World) (x : Option Addr) (h : ∀ b : Addr, x = some b → w.cell? b = some (.bool false) ∧ b.spot = none) : Calls Tryz.prog 28 #[.pointer x] w fun e w' => e = .returned (.bool false) ∧ w = w' := by
  have HM := Lib.hid (close_not w x h)
  clear h
  go_enter Tryz.func28, Tryz.ntmps28
  go_wp2_with (go_at_call 27; (with_reducible refine (HM.out).mono ?_); rintro e w2 ⟨rfl, rfl⟩)
  go_ret
  exact ⟨rfl, rfl⟩
end
end Go.Proofs.YtjofdgjcbjdhbaaGreatDoor
/- WALKS OF LAYER 10, THIRD PART: take. -/
namespace Go.Proofs.YtjofdgjcbjdhbaaGreatDoor
open Go Go.RowKit
set_option maxHeartbeats 8000000
set_option maxRecDepth 100000
set_option linter.unusedVariables false
theorem RB.add {w : World} {B n : Nat} {A : Option Addr} {xs : List Int} (h : RB w B A n xs) {k : Nat} (hk : k ≤ n) : RB w B (A.map fun x => x.add k) (n - k) (xs.drop k) := by
  refine ⟨by rw [List.length_drop, h.1], fun hn => ?_⟩
  obtain ⟨b, o, rfl, hb, hc⟩ := h.2 (by omega)
  have h2 := RB.back (k := k) (show RB w B (some ⟨b, o, none⟩) n xs from h) hk
  obtain ⟨b2, o2, e2, hb2, hc2⟩ := h2.2 hn
  exact ⟨b2, o2, by rw [← e2]; simp [Lib.add_plain], hb2, hc2⟩
section
variable {w : World} {B a : Nat} {al nx : Value} {s : Fd.S}
theorem take_any10 (h : Fs w B a al nx s) (hB : B ≤ w.heap.size) (hlt : s.has < s.nd) (hnd : s.nd ≤ 4608) (A : Option Addr) (n c : Nat) (xs : List Int) (hd : RB w B A n xs) (hx : Byt xs) (hc : n ≤ c) (hc2 : c ≤ maxLen) (hn : n ≤ 100000) :
    Calls Tryz.prog 38 #[.pointer (some ⟨a, 7, none⟩), .slice A n c] w fun e w' => ∃ A', e = .returned (.slice A' (n - Fd.tk s xs) (c - Fd.tk s xs)) ∧ RB w' B A' (n - Fd.tk s xs) (xs.drop (Fd.tk s xs)) ∧ Fs w' B a al nx (Fd.take s xs) ∧ Oth a w w' := by
  have hxl := hd.1
  have htk : Fd.tk s xs = min (s.nd - s.has) n := by unfold Fd.tk; rw [hxl]
  have hft : Fd.take s xs = { s with ys := s.ys.take s.has ++ xs.take (Fd.tk s xs) ++ s.ys.drop (s.has + Fd.tk s xs), has := s.has + Fd.tk s xs } := rfl
  rw [hft]
  generalize Fd.tk s xs = t at *
  clear hft
  have hsp := fcs_splice (s := s) (al := al) (nx := nx) h.len s.has (xs.take t) (by rw [List.length_take]; omega)
  have htl : (xs.take t).length = t := by rw [List.length_take]; omega
  rw [htl] at hsp
  have HSP := Lib.hid hsp
  have HTL := Lib.hid (show (u8s (xs.take t)).length = t by rw [u8s_len, htl])
  have hfl : (fcs s al nx).length = 4628 := by unfold fcs; rw [List.length_append, List.length_append, u8s_len, h.len]; rfl
  have HFL := Lib.hid hfl
  have k0 := h.top.1; have k1 := h.top.2.1
  have HG := Lib.hid (show ∀ j, (w.drewN j).heap[a]? = some (.cells (fcs s al nx).toArray 69 (0, 0)) from fun j => h.box)
  have src : 0 < (u8s (xs.take t)).length → ∃ ad, A = some ad ∧ ∀ j v, (u8s (xs.take t))[j]? = some v → w.drew.cell? (ad.add j) = some v := fun h0 => by
    rw [HTL.out] at h0
    obtain ⟨b, o, rfl, hb, hcell⟩ := hd.2 (by omega)
    refine ⟨_, rfl, fun j v hj => ?_⟩
    have hjl := (List.getElem?_eq_some_iff.1 hj).1
    rw [HTL.out] at hjl
    rw [Lib.add_plain]
    have h1 : w.cell? ⟨b, o + j, none⟩ = some v := by
      rw [hcell j (by omega)]
      rw [← hj]
      simp [u8s, hjl, List.getD_eq_getElem?_getD, List.getElem?_eq_getElem (show j < xs.length by omega)]
    exact h1
  have SRC := Lib.hid src
  have fin : ∀ w2 : World, w2.heap[a]? = some (.cells (splice (fcs s al nx) (7 + s.has) (u8s (xs.take t))).toArray 69 (0, 0)) → Oth a w.drew w2 → (w2.cell? ⟨a, 4615, none⟩ = some (.int .i64 (s.has : Int)) ∧ w2.frozen? ⟨a, 4615, none⟩ = false) ∧ Fs (w2.setCell ⟨a, 4615, none⟩ (.int .i64 ((s.has + t : Nat) : Int))) B a al nx { s with ys := s.ys.take s.has ++ xs.take t ++ s.ys.drop (s.has + t), has := s.has + t } ∧ Oth a w (w2.setCell ⟨a, 4615, none⟩ (.int .i64 ((s.has + t : Nat) : Int))) ∧ RB (w2.setCell ⟨a, 4615, none⟩ (.int .i64 ((s.has + t : Nat) : Int))) B A n xs := fun w2 h2 ho => by
    rw [HSP.out] at h2
    have ho' : Oth a w w2 := ho
    have hf : Fs w2 B a al nx { s with ys := s.ys.take s.has ++ xs.take t ++ s.ys.drop (s.has + t) } := h.oth ho' h2 (by show (s.ys.take s.has ++ xs.take t ++ s.ys.drop (s.has + t)).length = 4608; rw [List.length_append, List.length_append, htl, List.length_take, List.length_drop, h.len]; omega) (((Fd.byt_tk h.byt _).append (Fd.byt_tk hx _)).append (h.byt.drop _)) rfl rfl
    have hf2 := hf.set_hi 0 (.int .i64 ((s.has + t : Nat) : Int)) { s with ys := s.ys.take s.has ++ xs.take t ++ s.ys.drop (s.has + t), has := s.has + t } rfl rfl rfl rfl rfl
    exact ⟨⟨hf.top.1, hf.box.free _⟩, hf2, ho'.setCell _ _, (ho'.setCell _ _).rb hd h.ba hB⟩
  have FIN := Lib.hid fin
  have HBACK := Lib.hid (fun (W : World) (hr : RB W B A n xs) => hr)
  clear h hd hx hsp htl hfl fin src
  generalize s.has = k at *
  generalize s.nd = m at *
  have hkm : ¬ 4608 = k := by omega
  have hmm : (m : Int) ≤ 4608 := by omega
  have hkm2 : (k : Int) ≤ m := by omega
  have htn : t ≤ n := by omega
  have htm : t ≤ m - k := by omega
  have HTK := Lib.hid htk
  clear htk
  go_enter Tryz.func38, Tryz.ntmps38
  go_upto_region 1 with (fail)
  go_still_tail 13, (by kernel_rfl)
  refine wpList_copy_keep rfl (.tmp 17) (.tmp 18) 25 25 rfl 5 Tryz.underlying25 (by kernel_rfl) (some ⟨a, 7 + k, none⟩) A (m - k) (4608 - k) n c rfl rfl a (7 + k) (fcs s al nx) 69 (HG.out 1) (u8s (xs.take t)) (by rw [HTL.out, HTK.out]; exact Nat.min_comm _ _) (fun h0 => ⟨rfl, SRC.out h0⟩) (by rw [HTL.out, HFL.out]; omega) (u8_cells _) ?_
  intro w2 hw2 ho2
  rw [HTL.out]
  obtain ⟨⟨p0, p1⟩, p2, p3, p4⟩ := FIN.out w2 hw2 ho2
  have P2 := Lib.hid p2; have P3 := Lib.hid p3; have P4 := Lib.hid p4
  clear p2 p3 p4 hw2 ho2 k0 k1
  by_cases hct : c = t
  · subst hct
    obtain rfl : n = c := by omega
    go_wp2
    go_ret
    exact ⟨A, by simp, ⟨by rw [List.length_drop, P4.out.1], fun h => absurd h (by omega)⟩, P2.out, P3.out⟩
  · have htc : t ≤ c := by omega
    go_wp2
    go_ret
    exact ⟨_, rfl, P4.out.add htn, P2.out, P3.out⟩
end
end Go.Proofs.YtjofdgjcbjdhbaaGreatDoor
/- WALKS OF LAYER 10, FOURTH PART: measure, parts. By gen_f10d.py. -/
namespace Go.Proofs.YtjofdgjcbjdhbaaGreatDoor
open Go Go.RowKit
set_option maxHeartbeats 16000000
set_option maxRecDepth 100000
set_option linter.unusedVariables false
section
variable {w : World} {B a : Nat} {al nx : Value} {s : Fd.S}
theorem Fs.blk (h : Fs w B a al nx s) : RB w w.heap.size (some ⟨a, 7, none⟩) 512 (Fd.blk s) := by
  have := h.buf 0 512 (by decide)
  rwa [List.drop_zero] at this
theorem Oth.low {w' : World} (h : Oth a w w') (hB : B ≤ w.heap.size) (ha : B ≤ a) : Below B w w' := h.below ha hB
theorem meas_big (h : Fs w B a al nx s) (hh : 512 < s.has) :
    Calls Tryz.prog 58 #[.pointer (some ⟨a, 7, none⟩)] w fun e w' => e = .returned (.int .i64 0) ∧ w = w' := by
  have k0 := h.top.1
  have h1 : (512 : Int) < s.has := by omega
  clear h
  generalize s.has = k at *
  go_enter Tryz.func58, Tryz.ntmps58
  go_wp2
  go_ret
  exact ⟨rfl, rfl⟩
theorem meas_zero (h : Fs w B a al nx s) (hB : B ≤ w.heap.size) (hh : ¬ 512 < s.has) (hn : s.nd ≤ 4608) (hz : Hs.zeroS (Fd.blk s) = true) :
    Calls Tryz.prog 58 #[.pointer (some ⟨a, 7, none⟩)] w fun e w' => e = .returned (.int .i64 0) ∧ Fs w' B a al nx { s with h := Fd.hE, nd := s.nd + 512 } ∧ Oth a w w' := by
  have k0 := h.top.1
  obtain ⟨g0, g1, g2, g3, g4, g5, g6, g7, g8⟩ := h.hd
  have f0 := h.box.free 4617
  have f1 := h.box.free 4618
  have f2 := h.box.free 4619
  have f3 := h.box.free 4620
  have f4 := h.box.free 4621
  have f5 := h.box.free 4622
  have f6 := h.box.free 4623
  have f7 := h.box.free 4624
  have f8 := h.box.free 4625
  have h1 : ¬ (512 : Int) < s.has := by omega
  have HA := Lib.hid h.ba
  have HBZ := Lib.hid hB
  have BB := Lib.hid (Fd.byt_tk h.byt 512)
  have hf1 := h.set_hd Fd.hE
  have ho1 := oth_hd (Oth.refl a w) Fd.hE
  go_enter Tryz.func58, Tryz.ntmps58
  go_upto_region 5 with (fail)
  obtain ⟨W1, hW1⟩ : ∃ W1, W1 = ((((((((w.setCell ⟨a, 4617, none⟩ (.string ⟨#[]⟩)).setCell ⟨a, 4618, none⟩ (.string ⟨#[]⟩)).setCell ⟨a, 4619, none⟩ (.int .i64 0)).setCell ⟨a, 4620, none⟩ (.int .i64 0)).setCell ⟨a, 4621, none⟩ (.int .i64 0)).setCell ⟨a, 4622, none⟩ (.int .i64 0)).setCell ⟨a, 4623, none⟩ (.int .i64 512)).setCell ⟨a, 4624, none⟩ (.int .u8 0)).setCell ⟨a, 4625, none⟩ (.string ⟨#[]⟩) := ⟨_, rfl⟩
  rw [← hW1]
  have HF1 := Lib.hid (show Fs W1 B a al nx { s with h := Fd.hE } by rw [hW1]; exact hf1)
  have HO1 := Lib.hid (show Oth a w W1 by rw [hW1]; exact ho1)
  have HZA := Lib.hid (hzero_any (some ⟨a, 7, none⟩) 512 4608 (Fd.blk s) W1 HF1.out.blk)
  clear hW1 hf1 ho1 h k0 h1 f0 g0 f1 g1 f2 g2 f3 g3 f4 g4 f5 g5 f6 g6 f7 g7 f8 g8
  have n0 := HF1.out.top.2.1
  dsimp only at n0
  rw [hz] at HZA
  have fin : ∀ j, Fs ((W1.drewN j).setCell ⟨a, 4616, none⟩ (.int .i64 ((s.nd + 512 : Nat) : Int))) B a al nx { s with h := Fd.hE, nd := s.nd + 512 } ∧ Oth a w ((W1.drewN j).setCell ⟨a, 4616, none⟩ (.int .i64 ((s.nd + 512 : Nat) : Int))) := fun j =>
    ⟨Fs.set_hi (s := { s with h := Fd.hE }) (HF1.out.below (below_drewN (Below.refl _ _) j)) 1 _ { s with h := Fd.hE, nd := s.nd + 512 } rfl rfl rfl rfl rfl, ((HO1.out).trans (Oth.ofBelow (below_drewN (Below.refl _ W1) j))).setCell 4616 _⟩
  have FIN := Lib.hid fin
  clear fin
  have z0 := HF1.out.hd.2.2.2.2.2.2.1
  dsimp only [Fd.hE] at z0
  have fr := HF1.out.box.free 4616
  have CT := Lib.hid (fun W => count_any 512 W (by decide) (by decide))
  rw [show Bk.cnt 512 = 1 from rfl] at CT
  clear hz
  go_upto_region 12 with (go_at_call 50; (with_reducible refine (HZA.out).mono ?_); rintro e w2 ⟨rfl, rfl⟩)
  go_still_tail 14, (by kernel_rfl)
  still_call (quiet_r (CT.out _))
  repeat still_step
  refine wpStill_nil ?_
  go_wp2
  go_ret
  exact ⟨rfl, (FIN.out 1).1, (FIN.out 1).2⟩
theorem meas_err (h : Fs w B a al nx s) (hB : B ≤ w.heap.size) (hh : ¬ 512 < s.has) (hn : s.nd ≤ 4608) (hz : Hs.zeroS (Fd.blk s) = false) (E : Int) (hEE : Hh.parE (Fd.blk s) = E) (he : E ≠ 0) :
    Calls Tryz.prog 58 #[.pointer (some ⟨a, 7, none⟩)] w fun e w' => e = .returned (.int .i64 E) ∧ Fs w' B a al nx { s with h := Fd.hE } ∧ Oth a w w' := by
  have k0 := h.top.1
  obtain ⟨g0, g1, g2, g3, g4, g5, g6, g7, g8⟩ := h.hd
  have f0 := h.box.free 4617
  have f1 := h.box.free 4618
  have f2 := h.box.free 4619
  have f3 := h.box.free 4620
  have f4 := h.box.free 4621
  have f5 := h.box.free 4622
  have f6 := h.box.free 4623
  have f7 := h.box.free 4624
  have f8 := h.box.free 4625
  have h1 : ¬ (512 : Int) < s.has := by omega
  have HA := Lib.hid h.ba
  have HBZ := Lib.hid hB
  have BB := Lib.hid (Fd.byt_tk h.byt 512)
  have hf1 := h.set_hd Fd.hE
  have ho1 := oth_hd (Oth.refl a w) Fd.hE
  go_enter Tryz.func58, Tryz.ntmps58
  go_upto_region 5 with (fail)
  obtain ⟨W1, hW1⟩ : ∃ W1, W1 = ((((((((w.setCell ⟨a, 4617, none⟩ (.string ⟨#[]⟩)).setCell ⟨a, 4618, none⟩ (.string ⟨#[]⟩)).setCell ⟨a, 4619, none⟩ (.int .i64 0)).setCell ⟨a, 4620, none⟩ (.int .i64 0)).setCell ⟨a, 4621, none⟩ (.int .i64 0)).setCell ⟨a, 4622, none⟩ (.int .i64 0)).setCell ⟨a, 4623, none⟩ (.int .i64 512)).setCell ⟨a, 4624, none⟩ (.int .u8 0)).setCell ⟨a, 4625, none⟩ (.string ⟨#[]⟩) := ⟨_, rfl⟩
  rw [← hW1]
  have HF1 := Lib.hid (show Fs W1 B a al nx { s with h := Fd.hE } by rw [hW1]; exact hf1)
  have HO1 := Lib.hid (show Oth a w W1 by rw [hW1]; exact ho1)
  have HZA := Lib.hid (hzero_any (some ⟨a, 7, none⟩) 512 4608 (Fd.blk s) W1 HF1.out.blk)
  clear hW1 hf1 ho1 h k0 h1 f0 g0 f1 g1 f2 g2 f3 g3 f4 g4 f5 g5 f6 g6 f7 g7 f8 g8
  have par := hparse_any (some ⟨a, 7, none⟩) 512 4608 (Fd.blk s) W1 HF1.out.blk BB.out (by decide) (by decide)
  have n0 := HF1.out.top.2.1
  dsimp only at n0
  rw [hz] at HZA
  rw [Hh.parV_bad _ (by rw [hEE]; exact he), hEE] at par
  unfold Hh.hdr at par
  have PAR := Lib.hid par
  clear par hz
  have hE : (E != 0) = true := by simp [he]
  clear he hEE
  go_wp2_with (first
    | (go_at_call 50; (with_reducible refine (HZA.out).mono ?_); rintro e w2 ⟨rfl, rfl⟩)
    | (go_at_call 74; (with_reducible refine (PAR.out).mono ?_); rintro e w2 ⟨rfl, hb2⟩; have HB2 := Lib.hid (hb2.alloc hb2.size (.cells #[.string ⟨#[]⟩, .string ⟨#[]⟩, .int .i64 0, .int .i64 0, .int .i64 0, .int .i64 0, .int .i64 0, .int .u8 0, .string ⟨#[]⟩] 64)); clear hb2))
  go_ret
  exact ⟨rfl, HF1.out.below HB2.out, HO1.out.trans (Oth.ofBelow HB2.out)⟩
theorem meas_great (h : Fs w B a al nx s) (hB : B ≤ w.heap.size) (hh : ¬ 512 < s.has) (hn : s.nd ≤ 4608) (hz : Hs.zeroS (Fd.blk s) = false) (he : Hh.parE (Fd.blk s) = 0) (p nm l : ByteArray) (m u g t z k : Int) (hv : Hh.parV (Fd.blk s) = .agg #[.string p, .string nm, .int .i64 m, .int .i64 u, .int .i64 g, .int .i64 t, .int .i64 z, .int .u8 k, .string l]) (hq : 4096 < z) :
    Calls Tryz.prog 58 #[.pointer (some ⟨a, 7, none⟩)] w fun e w' => e = .returned (.int .i64 10) ∧ Fs w' B a al nx { s with h := Fd.hE } ∧ Oth a w w' := by
  have k0 := h.top.1
  obtain ⟨g0, g1, g2, g3, g4, g5, g6, g7, g8⟩ := h.hd
  have f0 := h.box.free 4617
  have f1 := h.box.free 4618
  have f2 := h.box.free 4619
  have f3 := h.box.free 4620
  have f4 := h.box.free 4621
  have f5 := h.box.free 4622
  have f6 := h.box.free 4623
  have f7 := h.box.free 4624
  have f8 := h.box.free 4625
  have h1 : ¬ (512 : Int) < s.has := by omega
  have HA := Lib.hid h.ba
  have HBZ := Lib.hid hB
  have BB := Lib.hid (Fd.byt_tk h.byt 512)
  have hf1 := h.set_hd Fd.hE
  have ho1 := oth_hd (Oth.refl a w) Fd.hE
  go_enter Tryz.func58, Tryz.ntmps58
  go_upto_region 5 with (fail)
  obtain ⟨W1, hW1⟩ : ∃ W1, W1 = ((((((((w.setCell ⟨a, 4617, none⟩ (.string ⟨#[]⟩)).setCell ⟨a, 4618, none⟩ (.string ⟨#[]⟩)).setCell ⟨a, 4619, none⟩ (.int .i64 0)).setCell ⟨a, 4620, none⟩ (.int .i64 0)).setCell ⟨a, 4621, none⟩ (.int .i64 0)).setCell ⟨a, 4622, none⟩ (.int .i64 0)).setCell ⟨a, 4623, none⟩ (.int .i64 512)).setCell ⟨a, 4624, none⟩ (.int .u8 0)).setCell ⟨a, 4625, none⟩ (.string ⟨#[]⟩) := ⟨_, rfl⟩
  rw [← hW1]
  have HF1 := Lib.hid (show Fs W1 B a al nx { s with h := Fd.hE } by rw [hW1]; exact hf1)
  have HO1 := Lib.hid (show Oth a w W1 by rw [hW1]; exact ho1)
  have HZA := Lib.hid (hzero_any (some ⟨a, 7, none⟩) 512 4608 (Fd.blk s) W1 HF1.out.blk)
  clear hW1 hf1 ho1 h k0 h1 f0 g0 f1 g1 f2 g2 f3 g3 f4 g4 f5 g5 f6 g6 f7 g7 f8 g8
  have par := hparse_any (some ⟨a, 7, none⟩) 512 4608 (Fd.blk s) W1 HF1.out.blk BB.out (by decide) (by decide)
  have n0 := HF1.out.top.2.1
  dsimp only at n0
  rw [hz] at HZA
  rw [he, hv] at par
  have PAR := Lib.hid par
  clear par hz he hv
  go_wp2_with (first
    | (go_at_call 50; (with_reducible refine (HZA.out).mono ?_); rintro e w2 ⟨rfl, rfl⟩)
    | (go_at_call 74; (with_reducible refine (PAR.out).mono ?_); rintro e w2 ⟨rfl, hb2⟩; have HB2 := Lib.hid (hb2.alloc hb2.size (.cells #[.string p, .string nm, .int .i64 m, .int .i64 u, .int .i64 g, .int .i64 t, .int .i64 z, .int .u8 k, .string l] 64)); clear hb2))
  go_ret
  exact ⟨rfl, HF1.out.below HB2.out, HO1.out.trans (Oth.ofBelow HB2.out)⟩
theorem meas_ok (h : Fs w B a al nx s) (hB : B ≤ w.heap.size) (hh : ¬ 512 < s.has) (hn : s.nd ≤ 4608) (hz : Hs.zeroS (Fd.blk s) = false) (he : Hh.parE (Fd.blk s) = 0) (p nm l : ByteArray) (m u g t z k : Int) (hv : Hh.parV (Fd.blk s) = .agg #[.string p, .string nm, .int .i64 m, .int .i64 u, .int .i64 g, .int .i64 t, .int .i64 z, .int .u8 k, .string l]) (hq : ¬ 4096 < z) (hq0 : 0 ≤ z) (cn : Nat) (hcn : Bk.cnt z = (cn : Int)) :
    Calls Tryz.prog 58 #[.pointer (some ⟨a, 7, none⟩)] w fun e w' => e = .returned (.int .i64 0) ∧ Fs w' B a al nx { s with h := ⟨p, nm, l, m, u, g, t, z, k⟩, nd := s.nd + cn * 512 } ∧ Oth a w w' := by
  have k0 := h.top.1
  obtain ⟨g0, g1, g2, g3, g4, g5, g6, g7, g8⟩ := h.hd
  have f0 := h.box.free 4617
  have f1 := h.box.free 4618
  have f2 := h.box.free 4619
  have f3 := h.box.free 4620
  have f4 := h.box.free 4621
  have f5 := h.box.free 4622
  have f6 := h.box.free 4623
  have f7 := h.box.free 4624
  have f8 := h.box.free 4625
  have h1 : ¬ (512 : Int) < s.has := by omega
  have HA := Lib.hid h.ba
  have HBZ := Lib.hid hB
  have BB := Lib.hid (Fd.byt_tk h.byt 512)
  have hf1 := h.set_hd Fd.hE
  have ho1 := oth_hd (Oth.refl a w) Fd.hE
  go_enter Tryz.func58, Tryz.ntmps58
  go_upto_region 5 with (fail)
  obtain ⟨W1, hW1⟩ : ∃ W1, W1 = ((((((((w.setCell ⟨a, 4617, none⟩ (.string ⟨#[]⟩)).setCell ⟨a, 4618, none⟩ (.string ⟨#[]⟩)).setCell ⟨a, 4619, none⟩ (.int .i64 0)).setCell ⟨a, 4620, none⟩ (.int .i64 0)).setCell ⟨a, 4621, none⟩ (.int .i64 0)).setCell ⟨a, 4622, none⟩ (.int .i64 0)).setCell ⟨a, 4623, none⟩ (.int .i64 512)).setCell ⟨a, 4624, none⟩ (.int .u8 0)).setCell ⟨a, 4625, none⟩ (.string ⟨#[]⟩) := ⟨_, rfl⟩
  rw [← hW1]
  have HF1 := Lib.hid (show Fs W1 B a al nx { s with h := Fd.hE } by rw [hW1]; exact hf1)
  have HO1 := Lib.hid (show Oth a w W1 by rw [hW1]; exact ho1)
  have HZA := Lib.hid (hzero_any (some ⟨a, 7, none⟩) 512 4608 (Fd.blk s) W1 HF1.out.blk)
  clear hW1 hf1 ho1 h k0 h1 f0 g0 f1 g1 f2 g2 f3 g3 f4 g4 f5 g5 f6 g6 f7 g7 f8 g8
  have par := hparse_any (some ⟨a, 7, none⟩) 512 4608 (Fd.blk s) W1 HF1.out.blk BB.out (by decide) (by decide)
  have n0 := HF1.out.top.2.1
  dsimp only at n0
  rw [hz] at HZA
  rw [he, hv] at par
  have PAR := Lib.hid par
  clear par hz he hv
  obtain ⟨c0, c8, _⟩ := Fd.cnt8 hq0 (show z ≤ 4096 by omega)
  have CT := Lib.hid (fun W => count_any z W (by omega) (by omega))
  rw [hcn] at CT c8
  clear hcn c0
  go_upto_region 11 with (first
    | (go_at_call 50; (with_reducible refine (HZA.out).mono ?_); rintro e w2 ⟨rfl, rfl⟩)
    | (go_at_call 74; (with_reducible refine (PAR.out).mono ?_); rintro e w2 ⟨rfl, hb2⟩; have HB2 := Lib.hid (hb2.alloc hb2.size (.cells #[.string p, .string nm, .int .i64 m, .int .i64 u, .int .i64 g, .int .i64 t, .int .i64 z, .int .u8 k, .string l] 64)); clear hb2))
  obtain ⟨W2, hW2⟩ : ∃ W2, W2 = w2.alloc (.cells #[.string p, .string nm, .int .i64 m, .int .i64 u, .int .i64 g, .int .i64 t, .int .i64 z, .int .u8 k, .string l] 64) := ⟨_, rfl⟩
  rw [← hW2] at HB2 ⊢
  have HBX := Lib.hid (show BX W2 w2.heap.size 64 #[.string p, .string nm, .int .i64 m, .int .i64 u, .int .i64 g, .int .i64 t, .int .i64 z, .int .u8 k, .string l] by rw [hW2]; exact BX.new _ _ _)
  clear hW2
  generalize w2.heap.size = gb at *
  have HF2 := Lib.hid (HF1.out.below HB2.out)
  have HO2 := Lib.hid (HO1.out.trans (Oth.ofBelow HB2.out))
  have x0 : W2.cell? ⟨gb, 0, none⟩ = some (.string p) := HBX.out.cell rfl
  have x1 : W2.cell? ⟨gb, 1, none⟩ = some (.string nm) := HBX.out.cell rfl
  have x2 : W2.cell? ⟨gb, 2, none⟩ = some (.int .i64 m) := HBX.out.cell rfl
  have x3 : W2.cell? ⟨gb, 3, none⟩ = some (.int .i64 u) := HBX.out.cell rfl
  have x4 : W2.cell? ⟨gb, 4, none⟩ = some (.int .i64 g) := HBX.out.cell rfl
  have x5 : W2.cell? ⟨gb, 5, none⟩ = some (.int .i64 t) := HBX.out.cell rfl
  have x6 : W2.cell? ⟨gb, 6, none⟩ = some (.int .i64 z) := HBX.out.cell rfl
  have x7 : W2.cell? ⟨gb, 7, none⟩ = some (.int .u8 k) := HBX.out.cell rfl
  have x8 : W2.cell? ⟨gb, 8, none⟩ = some (.string l) := HBX.out.cell rfl
  obtain ⟨y0, y1, y2, y3, y4, y5, y6, y7, y8⟩ := HF2.out.hd
  have e0 := HF2.out.box.free 4617
  have e1 := HF2.out.box.free 4618
  have e2 := HF2.out.box.free 4619
  have e3 := HF2.out.box.free 4620
  have e4 := HF2.out.box.free 4621
  have e5 := HF2.out.box.free 4622
  have e6 := HF2.out.box.free 4623
  have e7 := HF2.out.box.free 4624
  have e8 := HF2.out.box.free 4625
  have hf3 := HF2.out.set_hd ⟨p, nm, l, m, u, g, t, z, k⟩
  have ho3 := oth_hd (Oth.refl a W2) ⟨p, nm, l, m, u, g, t, z, k⟩
  go_upto_region 12 with (fail)
  obtain ⟨W3, hW3⟩ : ∃ W3, W3 = ((((((((W2.setCell ⟨a, 4617, none⟩ (.string p)).setCell ⟨a, 4618, none⟩ (.string nm)).setCell ⟨a, 4619, none⟩ (.int .i64 m)).setCell ⟨a, 4620, none⟩ (.int .i64 u)).setCell ⟨a, 4621, none⟩ (.int .i64 g)).setCell ⟨a, 4622, none⟩ (.int .i64 t)).setCell ⟨a, 4623, none⟩ (.int .i64 z)).setCell ⟨a, 4624, none⟩ (.int .u8 k)).setCell ⟨a, 4625, none⟩ (.string l) := ⟨_, rfl⟩
  rw [← hW3]
  have HF3 := Lib.hid (show Fs W3 B a al nx { s with h := ⟨p, nm, l, m, u, g, t, z, k⟩ } by rw [hW3]; exact hf3)
  have HO3 := Lib.hid (show Oth a w W3 from HO2.out.trans (show Oth a W2 W3 by rw [hW3]; exact ho3))
  clear hW3 hf3 ho3 n0 x0 y0 e0 x1 y1 e1 x2 y2 e2 x3 y3 e3 x4 y4 e4 x5 y5 e5 x6 y6 e6 x7 y7 e7 x8 y8 e8
  have n0 := HF3.out.top.2.1
  dsimp only at n0
  have fin : ∀ j, Fs ((W3.drewN j).setCell ⟨a, 4616, none⟩ (.int .i64 ((s.nd + cn * 512 : Nat) : Int))) B a al nx { s with h := ⟨p, nm, l, m, u, g, t, z, k⟩, nd := s.nd + cn * 512 } ∧ Oth a w ((W3.drewN j).setCell ⟨a, 4616, none⟩ (.int .i64 ((s.nd + cn * 512 : Nat) : Int))) := fun j =>
    ⟨Fs.set_hi (s := { s with h := ⟨p, nm, l, m, u, g, t, z, k⟩ }) (HF3.out.below (below_drewN (Below.refl _ _) j)) 1 _ { s with h := ⟨p, nm, l, m, u, g, t, z, k⟩, nd := s.nd + cn * 512 } rfl rfl rfl rfl rfl, ((HO3.out).trans (Oth.ofBelow (below_drewN (Below.refl _ W3) j))).setCell 4616 _⟩
  have FIN := Lib.hid fin
  clear fin
  have z0 := HF3.out.hd.2.2.2.2.2.2.1
  dsimp only at z0
  have fr := HF3.out.box.free 4616
  go_still_tail 14, (by kernel_rfl)
  still_call (quiet_r (CT.out _))
  repeat still_step
  refine wpStill_nil ?_
  go_wp2
  go_ret
  exact ⟨rfl, (FIN.out 1).1, (FIN.out 1).2⟩
theorem measure_any10 {N : Nat} (h : Fs w B a al nx s) (hB : B ≤ w.heap.size) (hok : Fd.Ok N s) :
    Calls Tryz.prog 58 #[.pointer (some ⟨a, 7, none⟩)] w fun e w' => e = .returned (.int .i64 (Fd.meas s).2) ∧ Fs w' B a al nx (Fd.meas s).1 ∧ Oth a w w' := by
  have hn := hok.nn.2
  unfold Fd.meas
  by_cases hh : 512 < s.has
  · rw [if_pos hh]
    exact (meas_big h hh).mono fun e w' ⟨h1, h2⟩ => by subst h2; exact ⟨h1, h, Oth.refl _ _⟩
  · rw [if_neg hh]
    cases hz : Hs.zeroS (Fd.blk s) with
    | true => rw [if_pos rfl]; exact meas_zero h hB hh hn hz
    | false =>
      rw [if_neg (by simp)]
      by_cases he : Hh.parE (Fd.blk s) = 0
      · rw [if_pos he]
        by_cases hq : 4096 < Ar.hz (Fd.blk s)
        · rw [if_pos hq]; exact meas_great h hB hh hn hz he _ _ _ _ _ _ _ _ _ (Hh.parV_ok _ he) hq
        · rw [if_neg hq]; exact meas_ok h hB hh hn hz he _ _ _ _ _ _ _ _ _ (Hh.parV_ok _ he) hq (Fd.hz_nn he).1 _ (by have := (Fd.cnt8 (Fd.hz_nn he).1 (show Ar.hz (Fd.blk s) ≤ 4096 by omega)).1; exact (Int.toNat_of_nonneg this).symm)
      · rw [if_neg he]; exact meas_err h hB hh hn hz _ rfl he
end
end Go.Proofs.YtjofdgjcbjdhbaaGreatDoor
/- WALKS OF LAYER 10, FIFTH PART: parts. -/
namespace Go.Proofs.YtjofdgjcbjdhbaaGreatDoor
open Go Go.RowKit
set_option maxHeartbeats 16000000
set_option maxRecDepth 100000
set_option linter.unusedVariables false
theorem BX.set9 {W : World} {gb : Nat} {T : TypeId} {c0 c1 c2 c3 c4 c5 c6 c7 c8 : Value} (h : BX W gb T #[c0, c1, c2, c3, c4, c5, c6, c7, c8]) (v0 v1 v2 v3 v4 v5 v6 v7 v8 : Value) : BX (((((((((W.setCell ⟨gb, 0, none⟩ v0).setCell ⟨gb, 1, none⟩ (v1)).setCell ⟨gb, 2, none⟩ (v2)).setCell ⟨gb, 3, none⟩ (v3)).setCell ⟨gb, 4, none⟩ (v4)).setCell ⟨gb, 5, none⟩ (v5)).setCell ⟨gb, 6, none⟩ (v6)).setCell ⟨gb, 7, none⟩ (v7)).setCell ⟨gb, 8, none⟩ (v8)) gb T #[v0, v1, v2, v3, v4, v5, v6, v7, v8] := by
  have h9 := ((((((((h.set 0 v0).set 1 v1).set 2 v2).set 3 v3).set 4 v4).set 5 v5).set 6 v6).set 7 v7).set 8 v8
  simpa using h9
theorem below_set9 {w W : World} {B gb : Nat} (h : Below B w W) (hB : B ≤ gb) (v0 v1 v2 v3 v4 v5 v6 v7 v8 : Value) : Below B w (((((((((W.setCell ⟨gb, 0, none⟩ (v0)).setCell ⟨gb, 1, none⟩ (v1)).setCell ⟨gb, 2, none⟩ (v2)).setCell ⟨gb, 3, none⟩ (v3)).setCell ⟨gb, 4, none⟩ (v4)).setCell ⟨gb, 5, none⟩ (v5)).setCell ⟨gb, 6, none⟩ (v6)).setCell ⟨gb, 7, none⟩ (v7)).setCell ⟨gb, 8, none⟩ (v8)) :=
  ((((((((h.setCell (p := ⟨gb, 0, none⟩) hB _).setCell (p := ⟨gb, 1, none⟩) hB _).setCell (p := ⟨gb, 2, none⟩) hB _).setCell (p := ⟨gb, 3, none⟩) hB _).setCell (p := ⟨gb, 4, none⟩) hB _).setCell (p := ⟨gb, 5, none⟩) hB _).setCell (p := ⟨gb, 6, none⟩) hB _).setCell (p := ⟨gb, 7, none⟩) hB _).setCell (p := ⟨gb, 8, none⟩) hB _
section
variable {w : World} {B a : Nat} {al nx : Value} {s : Fd.S}
theorem parts_any10 (h : Fs w B a al nx s) (p nm l : ByteArray) (m u g t k : Int) (z : Nat) (hh : s.h = ⟨p, nm, l, m, u, g, t, (z : Int), k⟩) (hz : z ≤ 4096) :
    Calls Tryz.prog 59 #[.pointer (some ⟨a, 7, none⟩)] w fun e w' => e = .returned (.tuple #[.agg #[.string p, .string nm, .int .i64 m, .int .i64 u, .int .i64 g, .int .i64 t, .int .i64 (z : Int), .int .u8 k, .string l], .slice (some ⟨a, 519, none⟩) z 4096]) ∧ Below w.heap.size w w' := by
  have hlt := h.box.lt
  have HF := Lib.hid (h.below (mb_new w (.cells #[.string ⟨#[]⟩, .string ⟨#[]⟩, .int .i64 0, .int .i64 0, .int .i64 0, .int .i64 0, .int .i64 0, .int .u8 0, .string ⟨#[]⟩] 64)))
  clear h
  have hz1 : (z : Int) ≤ 4096 := by omega
  go_enter Tryz.func59, Tryz.ntmps59
  go_upto_region 1 with (fail)
  obtain ⟨W1, hW1⟩ : ∃ W1, W1 = w.alloc (.cells #[.string ⟨#[]⟩, .string ⟨#[]⟩, .int .i64 0, .int .i64 0, .int .i64 0, .int .i64 0, .int .i64 0, .int .u8 0, .string ⟨#[]⟩] 64) := ⟨_, rfl⟩
  rw [← hW1] at HF ⊢
  have HBX := Lib.hid (show BX W1 w.heap.size 64 #[.string ⟨#[]⟩, .string ⟨#[]⟩, .int .i64 0, .int .i64 0, .int .i64 0, .int .i64 0, .int .i64 0, .int .u8 0, .string ⟨#[]⟩] by rw [hW1]; exact BX.new _ _ _)
  have HB1 := Lib.hid (show Below w.heap.size w W1 by rw [hW1]; exact mb_new _ _)
  clear hW1
  obtain ⟨y0, y1, y2, y3, y4, y5, y6, y7, y8⟩ := HF.out.hd
  rw [hh] at y0 y1 y2 y3 y4 y5 y6 y7 y8
  dsimp only at y0 y1 y2 y3 y4 y5 y6 y7 y8
  have HB2 := Lib.hid (fun j => (below_drewN HB1.out j : Below w.heap.size w (W1.drewN j)))
  generalize hgb : w.heap.size = gb at *
  have hne : gb ≠ a := by omega
  have hne' : a ≠ gb := by omega
  have z0 : W1.cell? ⟨gb, 0, none⟩ = some (.string ⟨#[]⟩) := HBX.out.cell rfl
  have f0 := HBX.out.free 0
  have z1 : W1.cell? ⟨gb, 1, none⟩ = some (.string ⟨#[]⟩) := HBX.out.cell rfl
  have f1 := HBX.out.free 1
  have z2 : W1.cell? ⟨gb, 2, none⟩ = some (.int .i64 0) := HBX.out.cell rfl
  have f2 := HBX.out.free 2
  have z3 : W1.cell? ⟨gb, 3, none⟩ = some (.int .i64 0) := HBX.out.cell rfl
  have f3 := HBX.out.free 3
  have z4 : W1.cell? ⟨gb, 4, none⟩ = some (.int .i64 0) := HBX.out.cell rfl
  have f4 := HBX.out.free 4
  have z5 : W1.cell? ⟨gb, 5, none⟩ = some (.int .i64 0) := HBX.out.cell rfl
  have f5 := HBX.out.free 5
  have z6 : W1.cell? ⟨gb, 6, none⟩ = some (.int .i64 0) := HBX.out.cell rfl
  have f6 := HBX.out.free 6
  have z7 : W1.cell? ⟨gb, 7, none⟩ = some (.int .u8 0) := HBX.out.cell rfl
  have f7 := HBX.out.free 7
  have z8 : W1.cell? ⟨gb, 8, none⟩ = some (.string ⟨#[]⟩) := HBX.out.cell rfl
  have f8 := HBX.out.free 8
  have hw : IntKind.i64.wrap (512 + (z : Int)) = 512 + (z : Int) := by go_arith
  have b0 : (0 : Int) ≤ (z : Int) := by omega
  have b1 : (512 : Int) + (z : Int) ≤ 4608 := by omega
  have b2 : (512 : Int) ≤ 512 + (z : Int) := by omega
  have b3 : (0 : Int) ≤ 512 + (z : Int) := by omega
  have hacc : Below W1.heap.size W1 W1.drew := below_drewN (Below.refl _ _) 1
  clear HF hh
  go_region_held3 (fun w' => w'.cell? ⟨a, 4617, none⟩ = some (.string p) ∧ w'.cell? ⟨a, 4618, none⟩ = some (.string nm) ∧ w'.cell? ⟨a, 4619, none⟩ = some (.int .i64 m) ∧ w'.cell? ⟨a, 4620, none⟩ = some (.int .i64 u) ∧ w'.cell? ⟨a, 4621, none⟩ = some (.int .i64 g) ∧ w'.cell? ⟨a, 4622, none⟩ = some (.int .i64 t) ∧ w'.cell? ⟨a, 4623, none⟩ = some (.int .i64 (z : Int)) ∧ w'.cell? ⟨a, 4624, none⟩ = some (.int .u8 k) ∧ w'.cell? ⟨a, 4625, none⟩ = some (.string l)) (go_keep) (fail)
  all_goals
    obtain ⟨W9, hW9⟩ : ∃ W9, W9 = ((((((((W1.setCell ⟨gb, 0, none⟩ (.string p)).setCell ⟨gb, 1, none⟩ (.string nm)).setCell ⟨gb, 2, none⟩ (.int .i64 m)).setCell ⟨gb, 3, none⟩ (.int .i64 u)).setCell ⟨gb, 4, none⟩ (.int .i64 g)).setCell ⟨gb, 5, none⟩ (.int .i64 t)).setCell ⟨gb, 6, none⟩ (.int .i64 (z : Int))).setCell ⟨gb, 7, none⟩ (.int .u8 k)).setCell ⟨gb, 8, none⟩ (.string l) := ⟨_, rfl⟩
    rw [← hW9]
    have HB9 := Lib.hid (show Below gb w W9 by rw [hW9]; exact below_set9 HB1.out (Nat.le_refl _) _ _ _ _ _ _ _ _ _)
    have b9 : BX W9 gb 64 #[.string p, .string nm, .int .i64 m, .int .i64 u, .int .i64 g, .int .i64 t, .int .i64 (z : Int), .int .u8 k, .string l] := by rw [hW9]; exact BX.set9 HBX.out _ _ _ _ _ _ _ _ _
    have c0 : W9.cell? ⟨gb, 0, none⟩ = some (.string p) := b9.cell rfl
    have c1 : W9.cell? ⟨gb, 1, none⟩ = some (.string nm) := b9.cell rfl
    have c2 : W9.cell? ⟨gb, 2, none⟩ = some (.int .i64 m) := b9.cell rfl
    have c3 : W9.cell? ⟨gb, 3, none⟩ = some (.int .i64 u) := b9.cell rfl
    have c4 : W9.cell? ⟨gb, 4, none⟩ = some (.int .i64 g) := b9.cell rfl
    have c5 : W9.cell? ⟨gb, 5, none⟩ = some (.int .i64 t) := b9.cell rfl
    have c6 : W9.cell? ⟨gb, 6, none⟩ = some (.int .i64 (z : Int)) := b9.cell rfl
    have c7 : W9.cell? ⟨gb, 7, none⟩ = some (.int .u8 k) := b9.cell rfl
    have c8 : W9.cell? ⟨gb, 8, none⟩ = some (.string l) := b9.cell rfl
    clear hW9
    go_wp2
    refine bodyPost_ret (v := .tuple #[.agg #[.string p, .string nm, .int .i64 m, .int .i64 u, .int .i64 g, .int .i64 t, .int .i64 (z : Int), .int .u8 k, .string l], .slice (some ⟨a, 519, none⟩) z 4096]) (by simp [results, Tryz.f59, go_sem, c0, c1, c2, c3, c4, c5, c6, c7, c8, show (512 + (z : Int)).toNat - 512 = z by omega]) rfl ?_
    exact ⟨rfl, by rw [hgb]; exact below_drewN HB9.out 1⟩
end
end Go.Proofs.YtjofdgjcbjdhbaaGreatDoor
