/- WALKS OF LAYER 9, THIRTEENTH PART: the gathering's entry at a header of the next member's records. By gen_a9m.py. -/
import Derived.Test.YtjofdgjcbjdhbaaGreatDoorGa3
import Derived.Deep.RegionHeld3
namespace Go.Proofs.YtjofdgjcbjdhbaaGreatDoor
open Go Go.RowKit
set_option maxHeartbeats 32000000
set_option maxRecDepth 100000
set_option linter.unusedVariables false
theorem byt_take9 {xs : List Int} (h : Byt xs) (k : Nat) : Byt (xs.take k) := fun j => by
  by_cases hj : j < k
  · have := h j
    simpa [List.getD, List.getElem?_take, hj] using this
  · simp [List.getD, List.getElem?_take, hj]
section
variable {w : World} {B a : Nat} {bA : Option Addr} {bn bc : Nat} {xs : List Int} {al nx it : Value} {s : Ar.S} {its : List It}
theorem entry_next9 (h : Gs w B a bA bn bc xs al nx it s its) (hB : B ≤ w.heap.size) (tb : ∀ W, Below B w W → Tab W) (hxs : Byt xs) (hbn : bn ≤ 400000) (hat : s.at_ ≤ bn) (h0 : 0 < bn) (hbc : bn ≤ bc) (hbc2 : bc ≤ maxLen) (A : Option Addr) (c : Nat) (x : List Int) (hd : RB w B A 512 x) (hx : Byt x) (hc : 512 ≤ c) (hc2 : c ≤ maxLen) (he : Hh.parE x = 0) (hzz : ¬ 4096 < Ar.hz x) (he2 : Bk.err (bn - s.at_) (Ar.hz x) = 0) (hk : Ar.hk x = 120)
    (s4 : Ar.S) (hs4 : s4 = { s with at_ := s.at_ + (Ar.hz x).toNat + (Bk.pad (Ar.hz x)).toNat }) (Y : List Int) (hY : Y = (xs.drop s.at_).take (Ar.hz x).toNat) :
    Calls Tryz.prog 52 #[.pointer (some ⟨a, 0, none⟩), .slice A 512 c] w fun e w' => e = .returned (.int .i64 (waitE s4 Y)) ∧
      (((Rc.parse (Ar.toB Y)).2 = 0 ∧ s4.nx.length = 0 ∧ ∃ nx', Gs w' B a bA bn bc xs al nx' it { s4 with nx := (Rc.parse (Ar.toB Y)).1 } its) ∨ (waitE s4 Y ≠ 0 ∧ Left w' B a bA bn bc xs it its)) ∧ Below B w w' := by
  have hz0 := (Ar.hz_bd hx).1
  have par : Calls Tryz.prog 74 #[.slice A 512 c] w fun e w' => e = .returned (.tuple #[.agg #[.string (Ar.hp x), .string (Ar.hn x), .int .i64 (Ar.hm x), .int .i64 (Ar.hu x), .int .i64 (Ar.hg x), .int .i64 (Ar.ht x), .int .i64 (Ar.hz x), .int .u8 (Ar.hk x), .string (Ar.hl x)], .int .i64 0]) ∧ Below w.heap.size w w' := by
    have h := hparse_any A 512 c x w (hd.more hB) hx hc hc2
    rw [he, Hh.parV_ok x he] at h
    exact h
  rw [hk] at par
  have hYb : Byt Y := by rw [hY]; exact byt_take9 (hxs.drop _) _
  generalize Ar.hp x = p at *
  generalize Ar.hn x = nm at *
  generalize Ar.hm x = m at *
  generalize Ar.hu x = u at *
  generalize Ar.hg x = g at *
  generalize Ar.ht x = t at *
  generalize Ar.hz x = z at *
  generalize Ar.hl x = l at *
  have PAR := Lib.hid par
  have hLT := h.box.lt
  have hBA := h.ba
  have DATA := Lib.hid (fun (W : World) (hb : Below w.heap.size w W) => (fun (hg : Gs W B a bA bn bc xs al nx it s its) (hs : w.heap.size ≤ W.heap.size) => data_ok9 hg (Nat.le_trans hB hs) hbn hat h0 hbc hbc2 p nm l m u g t z 120 hzz hz0 he2) (h.below hb) hb.size)
  rw [← hs4, ← hY] at DATA
  have WAIT := Lib.hid (fun (W4 : World) (A4 : Option Addr) (c4 : Nat) (h4 : Gs W4 B a bA bn bc xs al nx it s4 its) (hb4 : Below B w W4) (hr4 : RB W4 W4.heap.size A4 z.toNat Y) (hc4 : z.toNat ≤ c4) (hm4 : c4 ≤ maxLen) => wait_val9 h4 (Nat.le_trans hB hb4.size) (tb W4 hb4) A4 z.toNat c4 Y hr4 hYb hc4 hm4 (by omega))
  have HLT := Lib.hid hLT; have HBA := Lib.hid hBA; have HBZ := Lib.hid hB
  clear par h hd hx he hzz hz0 he2 hLT hBA hB hat h0 hbc hbc2 hbn tb hxs hYb hs4 hY hk
  generalize waitE s4 Y = WE at *
  generalize z.toNat = zn at *
  go_enter Tryz.func52, Tryz.ntmps52
  go_upto_region 4 with (go_at_call 74; (with_reducible refine (PAR.out).mono ?_); rintro e w2 ⟨rfl, hb2⟩; have HB2 := Lib.hid hb2; clear hb2)
  obtain ⟨W3, hW3⟩ : ∃ W3, W3 = w2.alloc (.cells #[.string p, .string nm, .int .i64 m, .int .i64 u, .int .i64 g, .int .i64 t, .int .i64 z, .int .u8 120, .string l] 64) := ⟨_, rfl⟩
  obtain ⟨gh, hgh⟩ : ∃ gh, gh = w2.heap.size := ⟨_, rfl⟩
  have HBX := Lib.hid (show BX W3 gh 64 #[.string p, .string nm, .int .i64 m, .int .i64 u, .int .i64 g, .int .i64 t, .int .i64 z, .int .u8 120, .string l] by rw [hW3, hgh]; exact BX.new _ _ _)
  have HB3 := Lib.hid (show Below w.heap.size w W3 by rw [hW3]; exact HB2.out.alloc HB2.out.size _)
  rw [← hW3, ← hgh]
  have HNE := Lib.hid (show gh ≠ a by rw [hgh]; have h1 := HB2.out.size; have h2 := HLT.out; omega)
  clear hW3 hgh HB2
  have alls : ∀ W, Oth a W3 W → W.cell? ⟨gh, 0, none⟩ = some (.string p) ∧ W.cell? ⟨gh, 1, none⟩ = some (.string nm) ∧ W.cell? ⟨gh, 2, none⟩ = some (.int .i64 m) ∧ W.cell? ⟨gh, 3, none⟩ = some (.int .i64 u) ∧ W.cell? ⟨gh, 4, none⟩ = some (.int .i64 g) ∧ W.cell? ⟨gh, 5, none⟩ = some (.int .i64 t) ∧ W.cell? ⟨gh, 6, none⟩ = some (.int .i64 z) ∧ W.cell? ⟨gh, 7, none⟩ = some (.int .u8 120) ∧ W.cell? ⟨gh, 8, none⟩ = some (.string l) := fun W hW => by
    have b := HBX.out.oth hW HNE.out
    exact ⟨b.cell rfl, b.cell rfl, b.cell rfl, b.cell rfl, b.cell rfl, b.cell rfl, b.cell rfl, b.cell rfl, b.cell rfl⟩
  have ALLS := Lib.hid alls
  clear alls
  have hacc : Oth a W3 W3.drew := Oth.ofBelow (below_drewN (Below.refl _ _) 1)
  obtain ⟨y0, y1, y2, y3, y4, y5, y6, y7, y8⟩ := ALLS.out _ hacc
  have HBD := Lib.hid (show Below w.heap.size w W3.drew from below_drewN HB3.out 1)
  go_region_held3 (fun w' => w'.cell? ⟨gh, 0, none⟩ = some (.string p) ∧ w'.cell? ⟨gh, 1, none⟩ = some (.string nm) ∧ w'.cell? ⟨gh, 2, none⟩ = some (.int .i64 m) ∧ w'.cell? ⟨gh, 3, none⟩ = some (.int .i64 u) ∧ w'.cell? ⟨gh, 4, none⟩ = some (.int .i64 g) ∧ w'.cell? ⟨gh, 5, none⟩ = some (.int .i64 t) ∧ w'.cell? ⟨gh, 6, none⟩ = some (.int .i64 z) ∧ w'.cell? ⟨gh, 7, none⟩ = some (.int .u8 120) ∧ w'.cell? ⟨gh, 8, none⟩ = some (.string l)) (first | go_keep | (exact ALLS.out _ hacc)) (first
    | (go_at_call 75; (with_reducible refine (DATA.out _ HBD.out).mono ?_); rintro e w4 ⟨⟨v4, rfl, hob4⟩, hg4, ho4⟩; obtain ⟨A4, c4, rfl, hr4, hc4, hm4⟩ := OBn.slice hob4; have HO4 := Lib.hid (((Oth.ofBelow (a := a) HBD.out).trans ho4).below HBA.out HBZ.out); have WT := Lib.hid (WAIT.out w4 A4 c4 hg4 HO4.out hr4 hc4 hm4); replace hacc := hacc.trans ho4; clear hg4 ho4 hob4 hr4 hc4 hm4))
  all_goals
    obtain ⟨k0, k1, k2, k3, k4, k5, k6, k7, k8⟩ := ALLS.out _ hacc
    go_wp2_with (go_at_call 76; (with_reducible refine (WT.out).mono ?_); rintro e w5 ⟨rfl, hp5, hb5⟩; have HP5 := Lib.hid hp5; have HB5 := Lib.hid (HO4.out.trans hb5); clear hp5 hb5)
    go_ret
    exact ⟨rfl, HP5.out, HB5.out⟩
end
end Go.Proofs.YtjofdgjcbjdhbaaGreatDoor
/- WALKS OF LAYER 9, FOURTEENTH PART: the gathering's entry at records of all members behind. By gen_a9m.py. -/
namespace Go.Proofs.YtjofdgjcbjdhbaaGreatDoor
open Go Go.RowKit
set_option maxHeartbeats 32000000
set_option maxRecDepth 100000
set_option linter.unusedVariables false
section
variable {w : World} {B a : Nat} {bA : Option Addr} {bn bc : Nat} {xs : List Int} {al nx it : Value} {s : Ar.S} {its : List It}
theorem entry_all9 (h : Gs w B a bA bn bc xs al nx it s its) (hB : B ≤ w.heap.size) (tb : ∀ W, Below B w W → Tab W) (hxs : Byt xs) (hbn : bn ≤ 400000) (hat : s.at_ ≤ bn) (h0 : 0 < bn) (hbc : bn ≤ bc) (hbc2 : bc ≤ maxLen) (A : Option Addr) (c : Nat) (x : List Int) (hd : RB w B A 512 x) (hx : Byt x) (hc : 512 ≤ c) (hc2 : c ≤ maxLen) (he : Hh.parE x = 0) (hzz : ¬ 4096 < Ar.hz x) (he2 : Bk.err (bn - s.at_) (Ar.hz x) = 0) (hk : Ar.hk x = 103)
    (s4 : Ar.S) (hs4 : s4 = { s with at_ := s.at_ + (Ar.hz x).toNat + (Bk.pad (Ar.hz x)).toNat }) (Y : List Int) (hY : Y = (xs.drop s.at_).take (Ar.hz x).toNat) (hal4 : s4.al.length ≤ 100000) (hln4 : (Rc.parse (Ar.toB Y)).1.length ≤ 100000) :
    Calls Tryz.prog 52 #[.pointer (some ⟨a, 0, none⟩), .slice A 512 c] w fun e w' => e = .returned (.int .i64 (((Rc.parse (Ar.toB Y)).2 : Nat) : Int)) ∧ (∃ al', Gs w' B a bA bn bc xs al' nx it { s4 with al := s4.al ++ (Rc.parse (Ar.toB Y)).1 } its) ∧ Below B w w' := by
  have hz0 := (Ar.hz_bd hx).1
  have par : Calls Tryz.prog 74 #[.slice A 512 c] w fun e w' => e = .returned (.tuple #[.agg #[.string (Ar.hp x), .string (Ar.hn x), .int .i64 (Ar.hm x), .int .i64 (Ar.hu x), .int .i64 (Ar.hg x), .int .i64 (Ar.ht x), .int .i64 (Ar.hz x), .int .u8 (Ar.hk x), .string (Ar.hl x)], .int .i64 0]) ∧ Below w.heap.size w w' := by
    have h := hparse_any A 512 c x w (hd.more hB) hx hc hc2
    rw [he, Hh.parV_ok x he] at h
    exact h
  rw [hk] at par
  have hYb : Byt Y := by rw [hY]; exact byt_take9 (hxs.drop _) _
  generalize Ar.hp x = p at *
  generalize Ar.hn x = nm at *
  generalize Ar.hm x = m at *
  generalize Ar.hu x = u at *
  generalize Ar.hg x = g at *
  generalize Ar.ht x = t at *
  generalize Ar.hz x = z at *
  generalize Ar.hl x = l at *
  have PAR := Lib.hid par
  have hLT := h.box.lt
  have hBA := h.ba
  have DATA := Lib.hid (fun (W : World) (hb : Below w.heap.size w W) => (fun (hg : Gs W B a bA bn bc xs al nx it s its) (hs : w.heap.size ≤ W.heap.size) => data_ok9 hg (Nat.le_trans hB hs) hbn hat h0 hbc hbc2 p nm l m u g t z 103 hzz hz0 he2) (h.below hb) hb.size)
  rw [← hs4, ← hY] at DATA
  have WAIT := Lib.hid (fun (W4 : World) (A4 : Option Addr) (c4 : Nat) (h4 : Gs W4 B a bA bn bc xs al nx it s4 its) (hb4 : Below B w W4) (hr4 : RB W4 W4.heap.size A4 z.toNat Y) (hc4 : z.toNat ≤ c4) (hm4 : c4 ≤ maxLen) => share_any9 h4 (Nat.le_trans hB hb4.size) (tb W4 hb4) A4 z.toNat c4 Y hr4 hYb hc4 hm4 (by omega) hal4 hln4)
  have HLT := Lib.hid hLT; have HBA := Lib.hid hBA; have HBZ := Lib.hid hB
  clear par h hd hx he hzz hz0 he2 hLT hBA hB hat h0 hbc hbc2 hbn tb hxs hYb hs4 hY hk hal4 hln4
  generalize (Rc.parse (Ar.toB Y)).2 = WE at *
  generalize z.toNat = zn at *
  go_enter Tryz.func52, Tryz.ntmps52
  go_upto_region 4 with (go_at_call 74; (with_reducible refine (PAR.out).mono ?_); rintro e w2 ⟨rfl, hb2⟩; have HB2 := Lib.hid hb2; clear hb2)
  obtain ⟨W3, hW3⟩ : ∃ W3, W3 = w2.alloc (.cells #[.string p, .string nm, .int .i64 m, .int .i64 u, .int .i64 g, .int .i64 t, .int .i64 z, .int .u8 103, .string l] 64) := ⟨_, rfl⟩
  obtain ⟨gh, hgh⟩ : ∃ gh, gh = w2.heap.size := ⟨_, rfl⟩
  have HBX := Lib.hid (show BX W3 gh 64 #[.string p, .string nm, .int .i64 m, .int .i64 u, .int .i64 g, .int .i64 t, .int .i64 z, .int .u8 103, .string l] by rw [hW3, hgh]; exact BX.new _ _ _)
  have HB3 := Lib.hid (show Below w.heap.size w W3 by rw [hW3]; exact HB2.out.alloc HB2.out.size _)
  rw [← hW3, ← hgh]
  have HNE := Lib.hid (show gh ≠ a by rw [hgh]; have h1 := HB2.out.size; have h2 := HLT.out; omega)
  clear hW3 hgh HB2
  have alls : ∀ W, Oth a W3 W → W.cell? ⟨gh, 0, none⟩ = some (.string p) ∧ W.cell? ⟨gh, 1, none⟩ = some (.string nm) ∧ W.cell? ⟨gh, 2, none⟩ = some (.int .i64 m) ∧ W.cell? ⟨gh, 3, none⟩ = some (.int .i64 u) ∧ W.cell? ⟨gh, 4, none⟩ = some (.int .i64 g) ∧ W.cell? ⟨gh, 5, none⟩ = some (.int .i64 t) ∧ W.cell? ⟨gh, 6, none⟩ = some (.int .i64 z) ∧ W.cell? ⟨gh, 7, none⟩ = some (.int .u8 103) ∧ W.cell? ⟨gh, 8, none⟩ = some (.string l) := fun W hW => by
    have b := HBX.out.oth hW HNE.out
    exact ⟨b.cell rfl, b.cell rfl, b.cell rfl, b.cell rfl, b.cell rfl, b.cell rfl, b.cell rfl, b.cell rfl, b.cell rfl⟩
  have ALLS := Lib.hid alls
  clear alls
  have hacc : Oth a W3 W3.drew := Oth.ofBelow (below_drewN (Below.refl _ _) 1)
  obtain ⟨y0, y1, y2, y3, y4, y5, y6, y7, y8⟩ := ALLS.out _ hacc
  have HBD := Lib.hid (show Below w.heap.size w W3.drew from below_drewN HB3.out 1)
  go_region_held3 (fun w' => w'.cell? ⟨gh, 0, none⟩ = some (.string p) ∧ w'.cell? ⟨gh, 1, none⟩ = some (.string nm) ∧ w'.cell? ⟨gh, 2, none⟩ = some (.int .i64 m) ∧ w'.cell? ⟨gh, 3, none⟩ = some (.int .i64 u) ∧ w'.cell? ⟨gh, 4, none⟩ = some (.int .i64 g) ∧ w'.cell? ⟨gh, 5, none⟩ = some (.int .i64 t) ∧ w'.cell? ⟨gh, 6, none⟩ = some (.int .i64 z) ∧ w'.cell? ⟨gh, 7, none⟩ = some (.int .u8 103) ∧ w'.cell? ⟨gh, 8, none⟩ = some (.string l)) (first | go_keep | (exact ALLS.out _ hacc)) (first
    | (go_at_call 75; (with_reducible refine (DATA.out _ HBD.out).mono ?_); rintro e w4 ⟨⟨v4, rfl, hob4⟩, hg4, ho4⟩; obtain ⟨A4, c4, rfl, hr4, hc4, hm4⟩ := OBn.slice hob4; have HO4 := Lib.hid (((Oth.ofBelow (a := a) HBD.out).trans ho4).below HBA.out HBZ.out); have WT := Lib.hid (WAIT.out w4 A4 c4 hg4 HO4.out hr4 hc4 hm4); replace hacc := hacc.trans ho4; clear hg4 ho4 hob4 hr4 hc4 hm4))
  all_goals
    obtain ⟨k0, k1, k2, k3, k4, k5, k6, k7, k8⟩ := ALLS.out _ hacc
    go_wp2_with (go_at_call 77; (with_reducible refine (WT.out).mono ?_); rintro e w5 ⟨rfl, hp5, hb5⟩; have HP5 := Lib.hid hp5; have HB5 := Lib.hid (HO4.out.trans hb5); clear hp5 hb5)
    go_ret
    exact ⟨rfl, HP5.out, HB5.out⟩
end
end Go.Proofs.YtjofdgjcbjdhbaaGreatDoor
/- WALKS OF LAYER 9, FOURTEENTH PART: the gathering's entry at a member. By gen_a9m.py. -/
namespace Go.Proofs.YtjofdgjcbjdhbaaGreatDoor
open Go Go.RowKit
set_option maxHeartbeats 32000000
set_option maxRecDepth 100000
set_option linter.unusedVariables false
section
variable {w : World} {B a : Nat} {bA : Option Addr} {bn bc : Nat} {xs : List Int} {al nx it : Value} {s : Ar.S} {its : List It}
theorem entry_mem9 (h : Gs w B a bA bn bc xs al nx it s its) (hB : B ≤ w.heap.size) (tb : ∀ W, Below B w W → Tab W) (hxs : Byt xs) (hbn : bn ≤ 400000) (hat : s.at_ ≤ bn) (h0 : 0 < bn) (hbc : bn ≤ bc) (hbc2 : bc ≤ maxLen) (A : Option Addr) (c : Nat) (x : List Int) (hd : RB w B A 512 x) (hx : Byt x) (hc : 512 ≤ c) (hc2 : c ≤ maxLen) (he : Hh.parE x = 0) (hzz : ¬ 4096 < Ar.hz x) (he2 : Bk.err (bn - s.at_) (Ar.hz x) = 0) (hk : ¬ Ar.hk x = 120) (hk2 : ¬ Ar.hk x = 103)
    (s4 : Ar.S) (hs4 : s4 = { s with at_ := s.at_ + (Ar.hz x).toNat + (Bk.pad (Ar.hz x)).toNat }) (Y : List Int) (hY : Y = (xs.drop s.at_).take (Ar.hz x).toNat) (hat4 : s4.at_ ≤ 900000) (hal4 : s4.al.length + s4.nx.length ≤ 100000) (hrv4 : ∀ r ∈ s4.al ++ s4.nx, r.2.size ≤ 100000) (hol4 : s4.out.length ≤ 64) :
    Calls Tryz.prog 52 #[.pointer (some ⟨a, 0, none⟩), .slice A 512 c] w fun e w' => (e = .returned (.int .i64 (gathE s4 (Mb.fE (s4.al ++ s4.nx) (Ar.hp x) (Ar.hn x) (Ar.hl x) (Ar.hk x) (Ar.hm x) (Ar.hu x) (Ar.hg x) (Ar.ht x) Y))) ∧ (((Mb.fE (s4.al ++ s4.nx) (Ar.hp x) (Ar.hn x) (Ar.hl x) (Ar.hk x) (Ar.hm x) (Ar.hu x) (Ar.hg x) (Ar.ht x) Y) = 0 ∧ ¬ s4.out.length = 64 ∧ ∃ it' its', Gs w' B a bA bn bc xs al (.slice none 0 0) it' { s4 with nx := [], out := s4.out ++ [(⟨Mb.fP (s4.al ++ s4.nx) (Ar.hp x) (Ar.hn x), Mb.fL (s4.al ++ s4.nx) (Ar.hk x) (Ar.hl x), Mb.kin (Ar.hk x), Ar.hm x, Ar.hu x, Ar.hg x, Ar.ht x, Mb.fX (Ar.hk x) Y⟩, s4.at_)] } its') ∨ (gathE s4 (Mb.fE (s4.al ++ s4.nx) (Ar.hp x) (Ar.hn x) (Ar.hl x) (Ar.hk x) (Ar.hm x) (Ar.hu x) (Ar.hg x) (Ar.ht x) Y) ≠ 0 ∧ Left w' B a bA bn bc xs it its))) ∧ Below B w w' := by
  obtain ⟨hs1, hs2, hs3⟩ := Ar.hd_sizes x
  have hz0 := (Ar.hz_bd hx).1
  have par : Calls Tryz.prog 74 #[.slice A 512 c] w fun e w' => e = .returned (.tuple #[.agg #[.string (Ar.hp x), .string (Ar.hn x), .int .i64 (Ar.hm x), .int .i64 (Ar.hu x), .int .i64 (Ar.hg x), .int .i64 (Ar.ht x), .int .i64 (Ar.hz x), .int .u8 (Ar.hk x), .string (Ar.hl x)], .int .i64 0]) ∧ Below w.heap.size w w' := by
    have h := hparse_any A 512 c x w (hd.more hB) hx hc hc2
    rw [he, Hh.parV_ok x he] at h
    exact h
  have hYb : Byt Y := by rw [hY]; exact byt_take9 (hxs.drop _) _
  generalize Ar.hp x = p at *
  generalize Ar.hn x = nm at *
  generalize Ar.hm x = m at *
  generalize Ar.hu x = u at *
  generalize Ar.hg x = g at *
  generalize Ar.ht x = t at *
  generalize Ar.hz x = z at *
  generalize Ar.hl x = l at *
  generalize Ar.hk x = k at *
  have PAR := Lib.hid par
  have hLT := h.box.lt
  have hBA := h.ba
  have DATA := Lib.hid (fun (W : World) (hb : Below w.heap.size w W) => (fun (hg : Gs W B a bA bn bc xs al nx it s its) (hs : w.heap.size ≤ W.heap.size) => data_ok9 hg (Nat.le_trans hB hs) hbn hat h0 hbc hbc2 p nm l m u g t z k hzz hz0 he2) (h.below hb) hb.size)
  rw [← hs4, ← hY] at DATA
  have WAIT := Lib.hid (fun (W4 : World) (A4 : Option Addr) (c4 : Nat) (h4 : Gs W4 B a bA bn bc xs al nx it s4 its) (hb4 : Below B w W4) (ho4 : OBn W4 B 5 (.slice A4 z.toNat c4) z.toNat Y) => (gather_any9 h4 (Nat.le_trans hB hb4.size) hat4 hal4 hrv4 hol4 p nm l m u g t z k (by omega) (by omega) (by omega) A4 z.toNat c4 Y ho4 (by omega)).mono fun e w' hh => And.intro (gathered_val hh.1) hh.2)
  have HLT := Lib.hid hLT; have HBA := Lib.hid hBA; have HBZ := Lib.hid hB
  clear par h hd hx he hzz hz0 he2 hLT hBA hB hat h0 hbc hbc2 hbn tb hxs hYb hs4 hY hat4 hal4 hrv4 hol4 hs1 hs2 hs3
  generalize z.toNat = zn at *
  go_enter Tryz.func52, Tryz.ntmps52
  go_upto_region 4 with (go_at_call 74; (with_reducible refine (PAR.out).mono ?_); rintro e w2 ⟨rfl, hb2⟩; have HB2 := Lib.hid hb2; clear hb2)
  obtain ⟨W3, hW3⟩ : ∃ W3, W3 = w2.alloc (.cells #[.string p, .string nm, .int .i64 m, .int .i64 u, .int .i64 g, .int .i64 t, .int .i64 z, .int .u8 k, .string l] 64) := ⟨_, rfl⟩
  obtain ⟨gh, hgh⟩ : ∃ gh, gh = w2.heap.size := ⟨_, rfl⟩
  have HBX := Lib.hid (show BX W3 gh 64 #[.string p, .string nm, .int .i64 m, .int .i64 u, .int .i64 g, .int .i64 t, .int .i64 z, .int .u8 k, .string l] by rw [hW3, hgh]; exact BX.new _ _ _)
  have HB3 := Lib.hid (show Below w.heap.size w W3 by rw [hW3]; exact HB2.out.alloc HB2.out.size _)
  rw [← hW3, ← hgh]
  have HNE := Lib.hid (show gh ≠ a by rw [hgh]; have h1 := HB2.out.size; have h2 := HLT.out; omega)
  clear hW3 hgh HB2
  have alls : ∀ W, Oth a W3 W → W.cell? ⟨gh, 0, none⟩ = some (.string p) ∧ W.cell? ⟨gh, 1, none⟩ = some (.string nm) ∧ W.cell? ⟨gh, 2, none⟩ = some (.int .i64 m) ∧ W.cell? ⟨gh, 3, none⟩ = some (.int .i64 u) ∧ W.cell? ⟨gh, 4, none⟩ = some (.int .i64 g) ∧ W.cell? ⟨gh, 5, none⟩ = some (.int .i64 t) ∧ W.cell? ⟨gh, 6, none⟩ = some (.int .i64 z) ∧ W.cell? ⟨gh, 7, none⟩ = some (.int .u8 k) ∧ W.cell? ⟨gh, 8, none⟩ = some (.string l) := fun W hW => by
    have b := HBX.out.oth hW HNE.out
    exact ⟨b.cell rfl, b.cell rfl, b.cell rfl, b.cell rfl, b.cell rfl, b.cell rfl, b.cell rfl, b.cell rfl, b.cell rfl⟩
  have ALLS := Lib.hid alls
  clear alls
  have hacc : Oth a W3 W3.drew := Oth.ofBelow (below_drewN (Below.refl _ _) 1)
  obtain ⟨y0, y1, y2, y3, y4, y5, y6, y7, y8⟩ := ALLS.out _ hacc
  have HBD := Lib.hid (show Below w.heap.size w W3.drew from below_drewN HB3.out 1)
  go_region_held3 (fun w' => w'.cell? ⟨gh, 0, none⟩ = some (.string p) ∧ w'.cell? ⟨gh, 1, none⟩ = some (.string nm) ∧ w'.cell? ⟨gh, 2, none⟩ = some (.int .i64 m) ∧ w'.cell? ⟨gh, 3, none⟩ = some (.int .i64 u) ∧ w'.cell? ⟨gh, 4, none⟩ = some (.int .i64 g) ∧ w'.cell? ⟨gh, 5, none⟩ = some (.int .i64 t) ∧ w'.cell? ⟨gh, 6, none⟩ = some (.int .i64 z) ∧ w'.cell? ⟨gh, 7, none⟩ = some (.int .u8 k) ∧ w'.cell? ⟨gh, 8, none⟩ = some (.string l)) (first | go_keep | (exact ALLS.out _ hacc)) (first
    | (go_at_call 75; (with_reducible refine (DATA.out _ HBD.out).mono ?_); rintro e w4 ⟨⟨v4, rfl, hob4⟩, hg4, ho4⟩; obtain ⟨A4, c4, rfl, hr4, hc4, hm4⟩ := OBn.slice hob4; have HO4 := Lib.hid (((Oth.ofBelow (a := a) HBD.out).trans ho4).below HBA.out HBZ.out); have WT := Lib.hid (WAIT.out w4 A4 c4 hg4 HO4.out (OBn.base8 hob4 (show B ≤ _ from Nat.le_trans HBZ.out HBD.out.size))); replace hacc := hacc.trans ho4; clear hg4 ho4 hob4 hr4 hc4 hm4))
  all_goals
    obtain ⟨k0, k1, k2, k3, k4, k5, k6, k7, k8⟩ := ALLS.out _ hacc
    go_wp2_with (go_at_call 78; (with_reducible refine (WT.out).mono ?_); rintro e w5 ⟨⟨rfl, hp5⟩, hb5⟩; have HP5 := Lib.hid hp5; have HB5 := Lib.hid (HO4.out.trans hb5); clear hp5 hb5)
    go_ret
    exact ⟨⟨rfl, HP5.out⟩, HB5.out⟩
end
end Go.Proofs.YtjofdgjcbjdhbaaGreatDoor
/- WALKS OF LAYER 9, FIFTEENTH PART: the gathering's entry, whole. -/
namespace Go.Proofs.YtjofdgjcbjdhbaaGreatDoor
open Go Go.RowKit
set_option maxHeartbeats 4000000
set_option maxRecDepth 100000
set_option linter.unusedVariables false
/-- What an entry comes to: it goes on, or ends with an error. -/
def Entered (w' : World) (B a : Nat) (bA : Option Addr) (bn bc : Nat) (xs : List Int) (it : Value) (its : List It) (r : Ar.R) (e : Ending) : Prop :=
  ∃ E, e = .returned (.int .i64 E) ∧ ((E = 0 ∧ ∃ s', r = .go s' ∧ ∃ al' nx' it' its', Gs w' B a bA bn bc xs al' nx' it' s' its') ∨ (E ≠ 0 ∧ r = .fin E ∧ Left w' B a bA bn bc xs it its))
theorem parse_len9 (Y : List Int) : (Rc.parse (Ar.toB Y)).1.length ≤ Y.length := by
  by_cases h : (Rc.parse (Ar.toB Y)).2 = 0
  · have := (Ar.parse_fits h).1
    rw [Ar.toB_len] at this
    omega
  · rw [Rc.parse_shape _ h]
    exact Nat.zero_le _
section
variable {w : World} {B a : Nat} {bA : Option Addr} {bn bc : Nat} {xs : List Int} {al nx it : Value} {s : Ar.S} {its : List It}
theorem entry_any9 (h : Gs w B a bA bn bc xs al nx it { s with at_ := s.at_ + 512 } its) (hB : B ≤ w.heap.size) (tb : ∀ W, Below B w W → Tab W) (hxs : Byt xs) (hbn : bn ≤ 400000) (hat : s.at_ + 512 ≤ bn) (hbc : bn ≤ bc) (hbc2 : bc ≤ maxLen) (hfit : Ar.Fits s) (hol : s.out.length ≤ 64) (A : Option Addr) (c : Nat) (x : List Int) (hd : RB w B A 512 x) (hx : Byt x) (hc : 512 ≤ c) (hc2 : c ≤ maxLen) :
    Calls Tryz.prog 52 #[.pointer (some ⟨a, 0, none⟩), .slice A 512 c] w fun e w' => Entered w' B a bA bn bc xs it its (Ar.entry s x (xs.drop (s.at_ + 512))) e ∧ Below B w w' := by
  have hxl9 := h.len
  have hyl : (xs.drop (s.at_ + 512)).length = bn - (s.at_ + 512) := by rw [List.length_drop, h.len]
  obtain ⟨f1, f2⟩ := hfit
  by_cases he : Hh.parE x = 0
  · by_cases hzz : 4096 < Ar.hz x
    · refine (entry_big9 h hB (by omega) hat (by omega) hbc hbc2 A c x hd hx hc hc2 he hzz).mono fun e w' ⟨h1, h2, h3⟩ => ⟨⟨_, h1, .inr ⟨by decide, ?_, h2⟩⟩, h3⟩
      unfold Ar.entry
      rw [if_pos he, if_pos hzz]
    · by_cases he2 : Bk.err (bn - (s.at_ + 512)) (Ar.hz x) = 0
      · obtain ⟨z0, z1⟩ := Bk.err_zero he2
        have zp := Bk.pad_bd (Ar.hz x)
        have hen : Ar.entry s x (xs.drop (s.at_ + 512)) = Ar.body s x ((xs.drop (s.at_ + 512)).take (Ar.hz x).toNat) (s.at_ + 512 + (Ar.hz x).toNat + (Bk.pad (Ar.hz x)).toNat) := by
          unfold Ar.entry
          rw [if_pos he, if_neg hzz, hyl, if_pos he2]
        rw [hen]
        have hYl : ((xs.drop (s.at_ + 512)).take (Ar.hz x).toNat).length ≤ 4096 := by rw [List.length_take]; omega
        have hpl := parse_len9 ((xs.drop (s.at_ + 512)).take (Ar.hz x).toNat)
        by_cases hk : Ar.hk x = 120
        · refine (entry_next9 h hB tb hxs (by omega) hat (by omega) hbc hbc2 A c x hd hx hc hc2 he hzz he2 hk _ rfl _ rfl).mono fun e w' ⟨h1, h2, h3⟩ => ⟨⟨_, h1, ?_⟩, h3⟩
          unfold Ar.body
          rw [if_pos hk]
          rcases h2 with ⟨hp, hl, nx', hG⟩ | ⟨hne, hL⟩
          · refine .inl ⟨?_, _, ?_, _, _, _, _, hG⟩
            · unfold waitE; rw [if_pos hp, if_pos hl]
            · rw [if_pos hp, if_pos hl]
          · refine .inr ⟨hne, ?_, hL⟩
            unfold waitE at hne ⊢
            by_cases hp : (Rc.parse (Ar.toB ((xs.drop (s.at_ + 512)).take (Ar.hz x).toNat))).2 = 0
            · rw [if_pos hp] at hne ⊢
              rw [if_pos hp]
              by_cases hl : s.nx.length = 0
              · rw [if_pos hl] at hne; exact absurd rfl hne
              · rw [if_neg hl]; exact congrArg Ar.R.fin (if_neg hl).symm
            · rw [if_neg hp, if_neg hp]
        · by_cases hk2 : Ar.hk x = 103
          · refine (entry_all9 h hB tb hxs (by omega) hat (by omega) hbc hbc2 A c x hd hx hc hc2 he hzz he2 hk2 _ rfl _ rfl (by show s.al.length ≤ 100000; omega) (by show (Rc.parse (Ar.toB ((xs.drop (s.at_ + 512)).take (Ar.hz x).toNat))).1.length ≤ 100000; omega)).mono fun e w' ⟨h1, ⟨al', hG⟩, h3⟩ => ⟨⟨_, h1, ?_⟩, h3⟩
            unfold Ar.body
            rw [if_neg hk, if_pos hk2]
            by_cases hp : (Rc.parse (Ar.toB ((xs.drop (s.at_ + 512)).take (Ar.hz x).toNat))).2 = 0
            · have hp0 : (((Rc.parse (Ar.toB ((xs.drop (s.at_ + 512)).take (Ar.hz x).toNat))).2 : Nat) : Int) = 0 := by omega
              exact .inl ⟨hp0, _, by rw [if_pos hp], _, _, _, _, hG⟩
            · have hp1 : (((Rc.parse (Ar.toB ((xs.drop (s.at_ + 512)).take (Ar.hz x).toNat))).2 : Nat) : Int) ≠ 0 := by omega
              exact .inr ⟨hp1, by rw [if_neg hp], ⟨_, _, _, hG⟩⟩
          · refine (entry_mem9 h hB tb hxs (by omega) hat (by omega) hbc hbc2 A c x hd hx hc hc2 he hzz he2 hk hk2 _ rfl _ rfl (by show s.at_ + 512 + _ + _ ≤ 900000; omega) (by show s.al.length + s.nx.length ≤ 100000; omega) (fun r hr => by have := f2 r hr; omega) hol).mono fun e w' ⟨⟨h1, h2⟩, h3⟩ => ⟨⟨_, h1, ?_⟩, h3⟩
            unfold Ar.body
            rw [if_neg hk, if_neg hk2]
            rcases h2 with ⟨hE, h64, it', its', hG⟩ | ⟨hne, hL⟩
            · refine .inl ⟨?_, _, ?_, _, _, _, _, hG⟩
              · unfold gathE; rw [if_pos hE, if_neg h64]
              · rw [if_pos (show Ar.fromE s x _ = 0 from hE), if_neg h64]; rfl
            · refine .inr ⟨hne, ?_, hL⟩
              change (if Ar.fromE s x ((xs.drop (s.at_ + 512)).take (Ar.hz x).toNat) = 0 then (if s.out.length = 64 then 5 else 0) else Ar.fromE s x ((xs.drop (s.at_ + 512)).take (Ar.hz x).toNat)) ≠ 0 at hne
              refine Eq.trans ?_ (show Ar.R.fin (if Ar.fromE s x ((xs.drop (s.at_ + 512)).take (Ar.hz x).toNat) = 0 then (if s.out.length = 64 then 5 else 0) else Ar.fromE s x ((xs.drop (s.at_ + 512)).take (Ar.hz x).toNat)) = _ from rfl)
              by_cases hE : Ar.fromE s x ((xs.drop (s.at_ + 512)).take (Ar.hz x).toNat) = 0
              · rw [if_pos hE] at hne ⊢
                rw [if_pos hE]
                by_cases h64 : s.out.length = 64
                · rw [if_pos h64, if_pos h64]
                · exact absurd (if_neg h64) hne
              · rw [if_neg hE, if_neg hE]
      · refine (entry_bad9 h hB (by omega) hat (by omega) hbc hbc2 A c x hd hx hc hc2 he hzz he2).mono fun e w' ⟨h1, h2, h3⟩ => ⟨⟨_, h1, .inr ⟨he2, ?_, h2⟩⟩, h3⟩
        unfold Ar.entry
        rw [if_pos he, if_neg hzz, hyl, if_neg he2]
  · refine (entry_err9 h hB A c x hd hx hc hc2 he).mono fun e w' ⟨h1, h2, h3⟩ => ⟨⟨_, h1, .inr ⟨he, ?_, h2⟩⟩, h3⟩
    unfold Ar.entry
    rw [if_neg he]
end
end Go.Proofs.YtjofdgjcbjdhbaaGreatDoor
