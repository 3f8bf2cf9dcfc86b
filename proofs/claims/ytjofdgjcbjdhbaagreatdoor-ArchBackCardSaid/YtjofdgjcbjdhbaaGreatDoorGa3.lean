/- WALKS OF LAYER 9, TENTH PART: the gathering's entry, where the header is refused. -/
import Derived.Test.YtjofdgjcbjdhbaaGreatDoorA9i
import Derived.Test.YtjofdgjcbjdhbaaGreatDoorGm8
import Derived.Test.YtjofdgjcbjdhbaaGreatDoorGh2
import Derived.Deep.RegionHeld3
namespace Go.Proofs.YtjofdgjcbjdhbaaGreatDoor
open Go Go.RowKit
set_option maxHeartbeats 16000000
set_option maxRecDepth 100000
set_option linter.unusedVariables false
section
variable {w : World} {B a : Nat} {bA : Option Addr} {bn bc : Nat} {xs : List Int} {al nx it : Value} {s : Ar.S} {its : List It}
theorem entry_err9 (h : Gs w B a bA bn bc xs al nx it s its) (hB : B ≤ w.heap.size) (A : Option Addr) (c : Nat) (x : List Int) (hd : RB w B A 512 x) (hx : Byt x) (hc : 512 ≤ c) (hc2 : c ≤ maxLen) (he : Hh.parE x ≠ 0) :
    Calls Tryz.prog 52 #[.pointer (some ⟨a, 0, none⟩), .slice A 512 c] w fun e w' => e = .returned (.int .i64 (Hh.parE x)) ∧ Left w' B a bA bn bc xs it its ∧ Below B w w' := by
  have par := hparse_any A 512 c x w (hd.more hB) hx hc hc2
  rw [Hh.parV_bad x he] at par
  unfold Hh.hdr at par
  have PAR := Lib.hid par
  have HLF := Lib.hid (fun W (hb : Below w.heap.size w W) => And.intro (show Left W B a bA bn bc xs it its from ⟨_, _, _, h.below hb⟩) (hb.mono hB))
  clear par h hd hx
  generalize Hh.parE x = E at *
  have hE : (E != 0) = true := by simp [he]
  clear he
  go_enter Tryz.func52, Tryz.ntmps52
  go_wp2_with (go_at_call 74; (with_reducible refine (PAR.out).mono ?_); rintro e w2 ⟨rfl, hb2⟩; have HB2 := Lib.hid (hb2.alloc hb2.size (.cells #[.string ⟨#[]⟩, .string ⟨#[]⟩, .int .i64 0, .int .i64 0, .int .i64 0, .int .i64 0, .int .i64 0, .int .u8 0, .string ⟨#[]⟩] 64)))
  go_ret
  exact ⟨rfl, HLF.out _ HB2.out⟩
end
end Go.Proofs.YtjofdgjcbjdhbaaGreatDoor
/- WALKS OF LAYER 9, ELEVENTH PART: the gathering's entry, where the header is taken. By gen_a9k.py. -/
namespace Go.Proofs.YtjofdgjcbjdhbaaGreatDoor
open Go Go.RowKit
set_option maxHeartbeats 32000000
set_option maxRecDepth 100000
set_option linter.unusedVariables false
section
variable {w : World} {B a : Nat} {bA : Option Addr} {bn bc : Nat} {xs : List Int} {al nx it : Value} {s : Ar.S} {its : List It}
theorem entry_big9 (h : Gs w B a bA bn bc xs al nx it s its) (hB : B ≤ w.heap.size) (hbn : bn ≤ 400000) (hat : s.at_ ≤ bn) (h0 : 0 < bn) (hbc : bn ≤ bc) (hbc2 : bc ≤ maxLen) (A : Option Addr) (c : Nat) (x : List Int) (hd : RB w B A 512 x) (hx : Byt x) (hc : 512 ≤ c) (hc2 : c ≤ maxLen) (he : Hh.parE x = 0) (hzz : 4096 < Ar.hz x) :
    Calls Tryz.prog 52 #[.pointer (some ⟨a, 0, none⟩), .slice A 512 c] w fun e w' => e = .returned (.int .i64 10) ∧ Left w' B a bA bn bc xs it its ∧ Below B w w' := by
  have hz0 := (Ar.hz_bd hx).1
  have par : Calls Tryz.prog 74 #[.slice A 512 c] w fun e w' => e = .returned (.tuple #[.agg #[.string (Ar.hp x), .string (Ar.hn x), .int .i64 (Ar.hm x), .int .i64 (Ar.hu x), .int .i64 (Ar.hg x), .int .i64 (Ar.ht x), .int .i64 (Ar.hz x), .int .u8 (Ar.hk x), .string (Ar.hl x)], .int .i64 0]) ∧ Below w.heap.size w w' := by
    have h := hparse_any A 512 c x w (hd.more hB) hx hc hc2
    rw [he, Hh.parV_ok x he] at h
    exact h
  generalize Ar.hp x = p at *
  generalize Ar.hn x = nm at *
  generalize Ar.hm x = m at *
  generalize Ar.hu x = u at *
  generalize Ar.hg x = g at *
  generalize Ar.ht x = t at *
  generalize Ar.hz x = z at *
  generalize Ar.hk x = k at *
  generalize Ar.hl x = l at *
  have PAR := Lib.hid par
  have hLT := h.box.lt
  have hBA := h.ba
  have DATA := Lib.hid (fun (W : World) (hb : Below w.heap.size w W) => (fun (hg : Gs W B a bA bn bc xs al nx it s its) (hs : w.heap.size ≤ W.heap.size) => data_big9 hg (Nat.le_trans hB hs) p nm l m u g t z k hzz) (h.below hb) hb.size)
  have HG := Lib.hid h
  have HLT := Lib.hid hLT; have HBA := Lib.hid hBA; have HBZ := Lib.hid hB
  clear par h hd hx he hzz hz0 hLT hBA hB hat h0 hbc hbc2 hbn
  go_enter Tryz.func52, Tryz.ntmps52
  go_upto_region 4 with (go_at_call 74; (with_reducible refine (PAR.out).mono ?_); rintro e w2 ⟨rfl, hb2⟩; have HB2 := Lib.hid hb2; clear hb2)
  obtain ⟨W3, hW3⟩ : ∃ W3, W3 = w2.alloc (.cells #[.string p, .string nm, .int .i64 m, .int .i64 u, .int .i64 g, .int .i64 t, .int .i64 z, .int .u8 k, .string l] 64) := ⟨_, rfl⟩
  obtain ⟨gh, hgh⟩ : ∃ gh, gh = w2.heap.size := ⟨_, rfl⟩
  have HBX := Lib.hid (show BX W3 gh 64 #[.string p, .string nm, .int .i64 m, .int .i64 u, .int .i64 g, .int .i64 t, .int .i64 z, .int .u8 k, .string l] by rw [hW3, hgh]; exact BX.new _ _ _)
  have HB3 := Lib.hid (show Below w.heap.size w W3 by rw [hW3]; exact HB2.out.alloc HB2.out.size _)
  rw [← hW3, ← hgh]
  have HNE := Lib.hid (show gh ≠ a by rw [hgh]; have h1 := HB2.out.size; have h2 := HLT.out; omega)
  clear hW3 hgh HB2
  have alls : ∀ W, Oth a W3 W → W.cell? ⟨gh, 0, none⟩ = some (.string p) ∧ W.cell? ⟨gh, 1, none⟩ = some (.string nm) ∧ W.cell? ⟨gh, 2, none⟩ = some (.int .i64 m) ∧ W.cell? ⟨gh, 3, none⟩ = some (.int .i64 u) ∧ W.cell? ⟨gh, 4, none⟩ = some (.int .i64 g) ∧ W.cell? ⟨gh, 5, none⟩ = some (.int .i64 t) ∧ W.cell? ⟨gh, 6, none⟩ = some (.int .i64 z) ∧ W.cell? ⟨gh, 7, none⟩ = some (.int .u8 k) ∧ W.cell? ⟨gh, 8, none⟩ = some (.string l) := fun W hW => by
    have b := HBX.out.oth hW HNE.out
    exact ⟨b.cell rfl, b.cell rfl, b.cell rfl, b.cell rfl, b.cell rfl, b.cell rfl, b.cell rfl, b.cell rfl, b.cell rfl⟩
  have ALLS := Lib.hid alls
  clear alls
  have hacc : Oth a W3 W3.drew := Oth.ofBelow (below_drewN (Below.refl _ _) 1)
  obtain ⟨y0, y1, y2, y3, y4, y5, y6, y7, y8⟩ := ALLS.out _ hacc
  have HBD := Lib.hid (show Below w.heap.size w W3.drew from below_drewN HB3.out 1)
  go_region_held3 (fun w' => w'.cell? ⟨gh, 0, none⟩ = some (.string p) ∧ w'.cell? ⟨gh, 1, none⟩ = some (.string nm) ∧ w'.cell? ⟨gh, 2, none⟩ = some (.int .i64 m) ∧ w'.cell? ⟨gh, 3, none⟩ = some (.int .i64 u) ∧ w'.cell? ⟨gh, 4, none⟩ = some (.int .i64 g) ∧ w'.cell? ⟨gh, 5, none⟩ = some (.int .i64 t) ∧ w'.cell? ⟨gh, 6, none⟩ = some (.int .i64 z) ∧ w'.cell? ⟨gh, 7, none⟩ = some (.int .u8 k) ∧ w'.cell? ⟨gh, 8, none⟩ = some (.string l)) (first | go_keep | (exact ALLS.out _ hacc)) (first
    | (go_at_call 75; (with_reducible refine (DATA.out _ HBD.out).mono ?_); rintro e w4 ⟨rfl, hg4, ho4⟩; have HG4 := Lib.hid hg4; have HO4 := Lib.hid ((Oth.ofBelow (a := a) HBD.out).trans ho4); replace hacc := hacc.trans ho4; clear hg4 ho4))
  all_goals
    go_wp2
    go_ret
    exact ⟨rfl, ⟨_, _, _, HG4.out⟩, HO4.out.below HBA.out HBZ.out⟩
theorem entry_bad9 (h : Gs w B a bA bn bc xs al nx it s its) (hB : B ≤ w.heap.size) (hbn : bn ≤ 400000) (hat : s.at_ ≤ bn) (h0 : 0 < bn) (hbc : bn ≤ bc) (hbc2 : bc ≤ maxLen) (A : Option Addr) (c : Nat) (x : List Int) (hd : RB w B A 512 x) (hx : Byt x) (hc : 512 ≤ c) (hc2 : c ≤ maxLen) (he : Hh.parE x = 0) (hzz : ¬ 4096 < Ar.hz x) (he2 : ¬ Bk.err (bn - s.at_) (Ar.hz x) = 0) :
    Calls Tryz.prog 52 #[.pointer (some ⟨a, 0, none⟩), .slice A 512 c] w fun e w' => e = .returned (.int .i64 (Bk.err (bn - s.at_) (Ar.hz x))) ∧ Left w' B a bA bn bc xs it its ∧ Below B w w' := by
  have hz0 := (Ar.hz_bd hx).1
  have par : Calls Tryz.prog 74 #[.slice A 512 c] w fun e w' => e = .returned (.tuple #[.agg #[.string (Ar.hp x), .string (Ar.hn x), .int .i64 (Ar.hm x), .int .i64 (Ar.hu x), .int .i64 (Ar.hg x), .int .i64 (Ar.ht x), .int .i64 (Ar.hz x), .int .u8 (Ar.hk x), .string (Ar.hl x)], .int .i64 0]) ∧ Below w.heap.size w w' := by
    have h := hparse_any A 512 c x w (hd.more hB) hx hc hc2
    rw [he, Hh.parV_ok x he] at h
    exact h
  generalize Ar.hp x = p at *
  generalize Ar.hn x = nm at *
  generalize Ar.hm x = m at *
  generalize Ar.hu x = u at *
  generalize Ar.hg x = g at *
  generalize Ar.ht x = t at *
  generalize Ar.hz x = z at *
  generalize Ar.hk x = k at *
  generalize Ar.hl x = l at *
  have PAR := Lib.hid par
  have hLT := h.box.lt
  have hBA := h.ba
  have DATA := Lib.hid (fun (W : World) (hb : Below w.heap.size w W) => (fun (hg : Gs W B a bA bn bc xs al nx it s its) (hs : w.heap.size ≤ W.heap.size) => data_bad9 hg (Nat.le_trans hB hs) hbn hat h0 hbc hbc2 p nm l m u g t z k hzz hz0 he2) (h.below hb) hb.size)
  have HG := Lib.hid h
  have HLT := Lib.hid hLT; have HBA := Lib.hid hBA; have HBZ := Lib.hid hB
  clear par h hd hx he hzz hz0 hLT hBA hB hat h0 hbc hbc2 hbn
  have HEE := Lib.hid he2
  clear he2
  generalize Bk.err (bn - s.at_) z = E at *
  have hE : (E != 0) = true := by simpa using HEE.out
  clear HEE
  go_enter Tryz.func52, Tryz.ntmps52
  go_upto_region 4 with (go_at_call 74; (with_reducible refine (PAR.out).mono ?_); rintro e w2 ⟨rfl, hb2⟩; have HB2 := Lib.hid hb2; clear hb2)
  obtain ⟨W3, hW3⟩ : ∃ W3, W3 = w2.alloc (.cells #[.string p, .string nm, .int .i64 m, .int .i64 u, .int .i64 g, .int .i64 t, .int .i64 z, .int .u8 k, .string l] 64) := ⟨_, rfl⟩
  obtain ⟨gh, hgh⟩ : ∃ gh, gh = w2.heap.size := ⟨_, rfl⟩
  have HBX := Lib.hid (show BX W3 gh 64 #[.string p, .string nm, .int .i64 m, .int .i64 u, .int .i64 g, .int .i64 t, .int .i64 z, .int .u8 k, .string l] by rw [hW3, hgh]; exact BX.new _ _ _)
  have HB3 := Lib.hid (show Below w.heap.size w W3 by rw [hW3]; exact HB2.out.alloc HB2.out.size _)
  rw [← hW3, ← hgh]
  have HNE := Lib.hid (show gh ≠ a by rw [hgh]; have h1 := HB2.out.size; have h2 := HLT.out; omega)
  clear hW3 hgh HB2
  have alls : ∀ W, Oth a W3 W → W.cell? ⟨gh, 0, none⟩ = some (.string p) ∧ W.cell? ⟨gh, 1, none⟩ = some (.string nm) ∧ W.cell? ⟨gh, 2, none⟩ = some (.int .i64 m) ∧ W.cell? ⟨gh, 3, none⟩ = some (.int .i64 u) ∧ W.cell? ⟨gh, 4, none⟩ = some (.int .i64 g) ∧ W.cell? ⟨gh, 5, none⟩ = some (.int .i64 t) ∧ W.cell? ⟨gh, 6, none⟩ = some (.int .i64 z) ∧ W.cell? ⟨gh, 7, none⟩ = some (.int .u8 k) ∧ W.cell? ⟨gh, 8, none⟩ = some (.string l) := fun W hW => by
    have b := HBX.out.oth hW HNE.out
    exact ⟨b.cell rfl, b.cell rfl, b.cell rfl, b.cell rfl, b.cell rfl, b.cell rfl, b.cell rfl, b.cell rfl, b.cell rfl⟩
  have ALLS := Lib.hid alls
  clear alls
  have hacc : Oth a W3 W3.drew := Oth.ofBelow (below_drewN (Below.refl _ _) 1)
  obtain ⟨y0, y1, y2, y3, y4, y5, y6, y7, y8⟩ := ALLS.out _ hacc
  have HBD := Lib.hid (show Below w.heap.size w W3.drew from below_drewN HB3.out 1)
  go_region_held3 (fun w' => w'.cell? ⟨gh, 0, none⟩ = some (.string p) ∧ w'.cell? ⟨gh, 1, none⟩ = some (.string nm) ∧ w'.cell? ⟨gh, 2, none⟩ = some (.int .i64 m) ∧ w'.cell? ⟨gh, 3, none⟩ = some (.int .i64 u) ∧ w'.cell? ⟨gh, 4, none⟩ = some (.int .i64 g) ∧ w'.cell? ⟨gh, 5, none⟩ = some (.int .i64 t) ∧ w'.cell? ⟨gh, 6, none⟩ = some (.int .i64 z) ∧ w'.cell? ⟨gh, 7, none⟩ = some (.int .u8 k) ∧ w'.cell? ⟨gh, 8, none⟩ = some (.string l)) (first | go_keep | (exact ALLS.out _ hacc)) (first
    | (go_at_call 75; (with_reducible refine (DATA.out _ HBD.out).mono ?_); rintro e w4 ⟨rfl, hg4, ho4⟩; have HG4 := Lib.hid hg4; have HO4 := Lib.hid ((Oth.ofBelow (a := a) HBD.out).trans ho4); replace hacc := hacc.trans ho4; clear hg4 ho4))
  all_goals
    go_wp2
    go_ret
    exact ⟨rfl, ⟨_, _, _, HG4.out⟩, HO4.out.below HBA.out HBZ.out⟩
end
end Go.Proofs.YtjofdgjcbjdhbaaGreatDoor
/- WALKS OF LAYER 9, TWELFTH PART: wait's and gather's answers as numbers. -/
namespace Go.Proofs.YtjofdgjcbjdhbaaGreatDoor
open Go Go.RowKit
set_option maxHeartbeats 4000000
set_option maxRecDepth 100000
set_option linter.unusedVariables false
def waitE (s : Ar.S) (d : List Int) : Int := if (Rc.parse (Ar.toB d)).2 = 0 then (if s.nx.length = 0 then 0 else 3) else (((Rc.parse (Ar.toB d)).2 : Nat) : Int)
def gathE (s : Ar.S) (E : Int) : Int := if E = 0 then (if s.out.length = 64 then 5 else 0) else E
section
variable {w : World} {B a : Nat} {bA : Option Addr} {bn bc : Nat} {xs : List Int} {al nx it : Value} {s : Ar.S} {its : List It}
theorem wait_val9 (h : Gs w B a bA bn bc xs al nx it s its) (hB : B ≤ w.heap.size) (tb : Tab w) (A : Option Addr) (n c : Nat) (d : List Int) (hd : RB w w.heap.size A n d) (hbd : Byt d) (hc : n ≤ c) (hc2 : c ≤ maxLen) (hn : n ≤ 1000000) :
    Calls Tryz.prog 76 #[.pointer (some ⟨a, 0, none⟩), .slice A n c] w fun e w' => e = .returned (.int .i64 (waitE s d)) ∧
      (((Rc.parse (Ar.toB d)).2 = 0 ∧ s.nx.length = 0 ∧ ∃ nx', Gs w' B a bA bn bc xs al nx' it { s with nx := (Rc.parse (Ar.toB d)).1 } its) ∨ (waitE s d ≠ 0 ∧ Left w' B a bA bn bc xs it its)) ∧ Below B w w' := by
  refine (wait_any9 h hB tb A n c d hd hbd hc hc2 hn).mono fun e w' ⟨h1, h2⟩ => ?_
  unfold waitE
  by_cases hp : (Rc.parse (Ar.toB d)).2 = 0
  · rw [if_pos hp] at h1
    rw [if_pos hp]
    by_cases hl : s.nx.length = 0
    · rw [if_pos hl] at h1
      rw [if_pos hl]
      exact ⟨h1.1, .inl ⟨hp, hl, h1.2⟩, h2⟩
    · rw [if_neg hl] at h1
      rw [if_neg hl]
      exact ⟨h1.1, .inr ⟨by decide, h1.2⟩, h2⟩
  · rw [if_neg hp] at h1
    rw [if_neg hp]
    exact ⟨h1.1, .inr ⟨by omega, h1.2⟩, h2⟩
theorem gathered_val {w' : World} {e : Ending} {E : Int} {mm : Ar.Mem} (h : Gathered w' B a bA bn bc xs al it its s e E mm) : e = .returned (.int .i64 (gathE s E)) ∧
    ((E = 0 ∧ ¬ s.out.length = 64 ∧ ∃ it' its', Gs w' B a bA bn bc xs al (.slice none 0 0) it' { s with nx := [], out := s.out ++ [(mm, s.at_)] } its') ∨ (gathE s E ≠ 0 ∧ Left w' B a bA bn bc xs it its)) := by
  unfold Gathered at h
  unfold gathE
  by_cases hE : E = 0
  · rw [if_pos hE] at h ⊢
    by_cases h64 : s.out.length = 64
    · rw [if_pos h64] at h ⊢
      exact ⟨h.1, .inr ⟨by decide, h.2⟩⟩
    · rw [if_neg h64] at h ⊢
      exact ⟨h.1, .inl ⟨hE, h64, h.2⟩⟩
  · rw [if_neg hE] at h ⊢
    exact ⟨h.1, .inr ⟨hE, h.2⟩⟩
end
end Go.Proofs.YtjofdgjcbjdhbaaGreatDoor
