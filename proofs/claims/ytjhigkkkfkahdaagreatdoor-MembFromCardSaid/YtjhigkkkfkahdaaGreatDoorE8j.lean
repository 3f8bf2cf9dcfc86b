/- WALKS OF LAYER 8, TENTH PART: the member of a header, the code's. By gen_e8j.py. -/
import Derived.Test.YtjhigkkkfkahdaaGreatDoorE8i
import Derived.Deep.DeepCutAuto
import Derived.Deep.RegionHeld3
namespace Go.Proofs.YtjhigkkkfkahdaaGreatDoor
open Go Go.RowKit
set_option maxHeartbeats 64000000
set_option maxRecDepth 100000
set_option linter.unusedVariables false
namespace Mb
def rS (E : Int) (s : ByteArray) : ByteArray := if E = 0 then s else ⟨#[]⟩
def rI (E : Int) (i : Int) : Int := if E = 0 then i else 0
def rX (E : Int) (xs : List Int) : List Int := if E = 0 then xs else []
theorem rX_bad {E : Int} {xs : List Int} (h : ¬ E = 0) : rX E xs = [] := if_neg h
theorem rX_ok {E : Int} {xs : List Int} (h : E = 0) : rX E xs = xs := if_pos h
theorem told_size {rs : List Rc.Rec} {key d : ByteArray} {s : Nat} (hs : ∀ r ∈ rs, r.2.size ≤ s) (hd : d.size ≤ s) : (told8 rs key d).size ≤ s := by
  unfold told8
  cases h : Rc.findR key rs with
  | none => exact hd
  | some v =>
    show v.size ≤ s
    clear hd
    induction rs with
    | nil => simp [Rc.findR] at h
    | cons r t ih =>
      unfold Rc.findR at h
      cases h2 : Rc.findR key t with
      | none =>
        rw [h2] at h
        simp only at h
        split at h
        · cases h; exact hs r (by simp)
        · cases h
      | some v2 =>
        rw [h2] at h
        cases h
        exact ih (fun x hx => hs x (List.mem_cons_of_mem _ hx)) h2
end Mb
theorem OBn.base8 {w : World} {B B' n : Nat} {e : TypeId} {v : Value} {xs : List Int} (h : OBn w B e v n xs) (hB : B' ≤ B) : OBn w B' e v n xs := by
  have h2 := OB.base h.ob hB
  have h3 := h.len
  subst h3
  exact h2
theorem OBn.aside {w : World} {B n : Nat} {e : TypeId} {v : Value} {xs : List Int} (h : OBn w B e v n xs) {a : Nat} (ha : a < B) (j : Nat) (x : Value) : OBn (w.setCell ⟨a, j, none⟩ x) B e v n xs :=
  h.kept fun k hk => heap_setCell_other w ⟨a, j, none⟩ k x (by have := (World.ownsRow.lt h k hk).1; show k ≠ a; omega)
theorem mfrom_0 (p nm l : ByteArray) (m u g t z k : Int) (B : Option Addr) (nr cr : Nat) (rs : List Rc.Rec) (A : Option Addr) (n c : Nat) (xs : List Int) (w : World) (hr : RL w w.heap.size B nr rs) (hnr : nr ≤ 100000) (ha : RB w w.heap.size A n xs) (hn : n ≤ 100000) (hp : p.size ≤ 1000) (hnm : nm.size ≤ 1000) (hl : l.size ≤ 1000)
    (hs : ∀ r ∈ rs, r.2.size ≤ 100000) (hk : Mb.kin k = 0) :
    Calls Tryz.prog 9 #[.agg #[.string p, .string nm, .int .i64 m, .int .i64 u, .int .i64 g, .int .i64 t, .int .i64 z, .int .u8 k, .string l], .slice B nr cr, .slice A n c] w fun e w' => ∃ A' n' c', e = .returned (.tuple #[.agg #[.string ⟨#[]⟩, .int .i64 0, .int .i64 0, .int .i64 0, .int .i64 0, .int .i64 0, .string ⟨#[]⟩, .slice A' n' c'], .int .i64 11]) ∧ RB w' w'.heap.size A' n' [] ∧ n' ≤ c' ∧ c' ≤ maxLen ∧ Below w.heap.size w w' := by
  have hxl := ha.1
  have cpa := fun W => hpath_any p nm l m u g t z k W (by omega) (by omega)
  have ctp := fun W (hW : Below w.heap.size w W) d => mtold_any B nr cr rs Mb.kPath d W ((hr.below hW).more hW.size) hnr
  have ctl := fun W (hW : Below w.heap.size w W) d => mtold_any B nr cr rs Mb.kLink d W ((hr.below hW).more hW.size) hnr
  have ckk := fun W => mkind_any k W
  rw [hk] at ckk
  have ccl := fun W (hb : Below w.heap.size w W) => bclone_any A n c xs W ((ha.below hb).more hb.size) (by omega)
  have ejn : (if p.size = 0 then nm else p ++ ⟨#[47]⟩ ++ nm) = Mb.join p nm := rfl
  rw [ejn] at cpa
  clear ejn
  have hjs : (Mb.join p nm).size ≤ 2001 := by
    unfold Mb.join
    split
    · omega
    · rw [ByteArray.size_append, ByteArray.size_append]
      have : (⟨#[47]⟩ : ByteArray).size = 1 := rfl
      omega
  have hps : (Mb.fP rs p nm).size ≤ 100000 := Mb.told_size (fun r hr => by have := hs r hr; omega) (by omega)
  have hls : (Mb.told8 rs Mb.kLink l).size ≤ 100000 := Mb.told_size hs (by omega)
  have eP : Mb.told8 rs Mb.kPath (Mb.join p nm) = Mb.fP rs p nm := rfl
  have ctp2 := fun W (hW : Below w.heap.size w W) => ctp W hW (Mb.join p nm)
  have ctl2 := fun W (hW : Below w.heap.size w W) => ctl W hW l
  rw [eP] at ctp2
  unfold Mb.kPath at ctp2
  have ek : Mb.kLink = ⟨#[108, 105, 110, 107, 112, 97, 116, 104]⟩ := rfl
  generalize Mb.fP rs p nm = P at *
  generalize Mb.join p nm = J at *
  generalize Mb.told8 rs Mb.kLink l = LL at *
  rw [ek] at ctl2
  have CPA := Lib.hid cpa; have CTP := Lib.hid ctp2; have CTL := Lib.hid (fun W (hW : Below w.heap.size w W) (_ : Unit) => ctl2 W hW); have CKK := Lib.hid ckk; have CCL := Lib.hid ccl; have HXL := Lib.hid hxl
  clear cpa ctp ctl ctp2 ctl2 ckk ccl hr ha ek eP hjs hxl hk
  go_enter Tryz.func9, Tryz.ntmps9
  go_upto_region 1 with (fail)
  obtain ⟨W0, hW0⟩ : ∃ W0, W0 = ((w.alloc (.cells #[.string p, .string nm, .int .i64 m, .int .i64 u, .int .i64 g, .int .i64 t, .int .i64 z, .int .u8 k, .string l] 40)).alloc (.cells #[.string ⟨#[]⟩, .int .i64 0, .int .i64 0, .int .i64 0, .int .i64 0, .int .i64 0, .string ⟨#[]⟩, .slice none 0 0] 35)) := ⟨_, rfl⟩
  rw [← hW0]
  have SZ0 := Lib.hid (show W0.heap.size = w.heap.size + 1 + 1 by rw [hW0]; simp)
  have BOX := Lib.hid (show ∀ W, Below W0.heap.size W0 W → BX W w.heap.size 40 #[.string p, .string nm, .int .i64 m, .int .i64 u, .int .i64 g, .int .i64 t, .int .i64 z, .int .u8 k, .string l] ∧ BX W (w.heap.size + 1) 35 #[.string ⟨#[]⟩, .int .i64 0, .int .i64 0, .int .i64 0, .int .i64 0, .int .i64 0, .string ⟨#[]⟩, .slice none 0 0] ∧ Below w.heap.size w W by
    intro W hb
    have hsz := SZ0.out
    rw [hsz] at hb
    rw [hW0] at hb
    refine ⟨((BX.new w _ _).alloc _).below hb (by omega), ?_, (((Below.refl _ w).alloc (Nat.le_refl _) _).alloc (by simp) _).trans (hb.mono (by omega))⟩
    have h := (BX.new (w.alloc (.cells #[.string p, .string nm, .int .i64 m, .int .i64 u, .int .i64 g, .int .i64 t, .int .i64 z, .int .u8 k, .string l] 40)) 35 #[.string ⟨#[]⟩, .int .i64 0, .int .i64 0, .int .i64 0, .int .i64 0, .int .i64 0, .string ⟨#[]⟩, .slice none 0 0]).below (B := w.heap.size + 1 + 1) (w' := W) hb (by simp)
    simpa using h)
  clear hW0
  go_cut [8] (fun v wx => ∃ gb, v = .pointer (some ⟨gb, 0, none⟩) ∧ Hid (W0.heap.size ≤ gb) ∧ Hid (Below W0.heap.size W0 wx) ∧ Hid (BX wx gb 35 #[.string P, .int .i64 0, .int .i64 m, .int .i64 u, .int .i64 g, .int .i64 t, .string ⟨#[]⟩, .slice none 0 0]))
  case first =>
    have hacc : Below W0.heap.size W0 W0.drew := below_drewN (Below.refl _ _) 1
    have alls : ∀ W, Below W0.heap.size W0 W → W.cell? ⟨w.heap.size, 0, none⟩ = some (.string p) ∧ W.cell? ⟨w.heap.size, 1, none⟩ = some (.string nm) ∧ W.cell? ⟨w.heap.size, 2, none⟩ = some (.int .i64 m) ∧ W.cell? ⟨w.heap.size, 3, none⟩ = some (.int .i64 u) ∧ W.cell? ⟨w.heap.size, 4, none⟩ = some (.int .i64 g) ∧ W.cell? ⟨w.heap.size, 5, none⟩ = some (.int .i64 t) ∧ W.cell? ⟨w.heap.size, 6, none⟩ = some (.int .i64 z) ∧ W.cell? ⟨w.heap.size, 7, none⟩ = some (.int .u8 k) ∧ W.cell? ⟨w.heap.size, 8, none⟩ = some (.string l) := fun W hW => by
      obtain ⟨b, _, _⟩ := BOX.out W hW
      exact ⟨b.cell rfl, b.cell rfl, b.cell rfl, b.cell rfl, b.cell rfl, b.cell rfl, b.cell rfl, b.cell rfl, b.cell rfl⟩
    have ALLS := Lib.hid alls
    clear alls
    obtain ⟨y0, y1, y2, y3, y4, y5, y6, y7, y8⟩ := ALLS.out _ hacc
    obtain ⟨x0, x1, x2, x3, x4, x5, x6, x7, x8⟩ := ALLS.out _ (Below.refl W0.heap.size W0)
    have hne0 : W0.heap.size ≠ w.heap.size := by rw [SZ0.out]; omega
    go_region_held3 (fun w' => w'.cell? ⟨w.heap.size, 0, none⟩ = some (.string p) ∧ w'.cell? ⟨w.heap.size, 1, none⟩ = some (.string nm) ∧ w'.cell? ⟨w.heap.size, 2, none⟩ = some (.int .i64 m) ∧ w'.cell? ⟨w.heap.size, 3, none⟩ = some (.int .i64 u) ∧ w'.cell? ⟨w.heap.size, 4, none⟩ = some (.int .i64 g) ∧ w'.cell? ⟨w.heap.size, 5, none⟩ = some (.int .i64 t) ∧ w'.cell? ⟨w.heap.size, 6, none⟩ = some (.int .i64 z) ∧ w'.cell? ⟨w.heap.size, 7, none⟩ = some (.int .u8 k) ∧ w'.cell? ⟨w.heap.size, 8, none⟩ = some (.string l)) (first | go_keep | (exact ALLS.out _ hacc) | (exact ALLS.out _ (hacc.alloc hacc.size _))) (first
      | (go_at_call 32; (with_reducible refine (CPA.out _).mono ?_); rintro e w1 ⟨rfl, hb1⟩; (first | (replace hacc := bthen hacc hb1; have hne1 : w1.heap.size ≠ w.heap.size := (by have h1 := hacc.size; have h2 := SZ0.out; omega)) | (have bz : BX w1 W0.heap.size 35 #[.string ⟨#[]⟩, .int .i64 0, .int .i64 0, .int .i64 0, .int .i64 0, .int .i64 0, .string ⟨#[]⟩, .slice none 0 0] := (BX.drew (BX.new _ _ _)).later hb1; replace hacc := ((mb_new W0 (.cells #[.string ⟨#[]⟩, .int .i64 0, .int .i64 0, .int .i64 0, .int .i64 0, .int .i64 0, .string ⟨#[]⟩, .slice none 0 0] 35)).drew).trans (Below.mono hb1 (by simp <;> omega)); have z0 : w1.cell? ⟨W0.heap.size, 0, none⟩ = some (.string ⟨#[]⟩) := bz.cell rfl; have f0 := bz.free 0; have z1 : w1.cell? ⟨W0.heap.size, 1, none⟩ = some (.int .i64 0) := bz.cell rfl; have f1 := bz.free 1; have z2 : w1.cell? ⟨W0.heap.size, 2, none⟩ = some (.int .i64 0) := bz.cell rfl; have f2 := bz.free 2; have z3 : w1.cell? ⟨W0.heap.size, 3, none⟩ = some (.int .i64 0) := bz.cell rfl; have f3 := bz.free 3; have z4 : w1.cell? ⟨W0.heap.size, 4, none⟩ = some (.int .i64 0) := bz.cell rfl; have f4 := bz.free 4; have z5 : w1.cell? ⟨W0.heap.size, 5, none⟩ = some (.int .i64 0) := bz.cell rfl; have f5 := bz.free 5; have z6 : w1.cell? ⟨W0.heap.size, 6, none⟩ = some (.string ⟨#[]⟩) := bz.cell rfl; have f6 := bz.free 6; have z7 : w1.cell? ⟨W0.heap.size, 7, none⟩ = some (.slice none 0 0) := bz.cell rfl; have f7 := bz.free 7)))
      | (go_at_call 31; (with_reducible refine (CTP.out _ (by first | exact (BOX.out _ hacc).2.2 | exact (BOX.out _ (hacc.alloc hacc.size _)).2.2 | exact (BOX.out _ (mb_new W0 _).drew).2.2)).mono ?_); rintro e w2 ⟨rfl, rfl⟩)
      | (go_at_call 29; (with_reducible refine (CKK.out _).mono ?_); rintro e w3 ⟨rfl, rfl⟩))
    all_goals
      go_wp2
      go_meet
      first
        | exact ⟨_, rfl, hacc.size, hacc.alloc hacc.size _, BX.new _ _ _⟩
        | exact ⟨_, rfl, Nat.le_refl _, ((((((((hacc).setCell (Nat.le_refl _) _).setCell (Nat.le_refl _) _).setCell (Nat.le_refl _) _).setCell (Nat.le_refl _) _).setCell (Nat.le_refl _) _).setCell (Nat.le_refl _) _).setCell (Nat.le_refl _) _).setCell (Nat.le_refl _) _, (by have h := (((((((bz.set 0 (.string P)).set 1 (.int .i64 0)).set 2 (.int .i64 m)).set 3 (.int .i64 u)).set 4 (.int .i64 g)).set 5 (.int .i64 t)).set 6 (.string ⟨#[]⟩)).set 7 (.slice none 0 0); show BX _ _ _ _; simpa using h)⟩
  case rest =>
    obtain ⟨gb, rfl, HG, HBC, HBM⟩ := hcut
    have HNE := Lib.hid (show w.heap.size + 1 ≠ gb by have h1 := HG.out; have h2 := SZ0.out; intro h; change W0.heap.size ≤ gb at h1; omega)
    have HGW := Lib.hid (show w.heap.size ≤ gb by have h1 := HG.out; have h2 := SZ0.out; change W0.heap.size ≤ gb at h1; omega)
    have HGL := Lib.hid (show gb < wc.heap.size from HBM.out.lt)
    have HZL := Lib.hid (show w.heap.size + 1 < wc.heap.size from (BOX.out _ HBC.out).2.1.lt)
    have SZ3 := SZ0.out
    have BZ3 := (BOX.out _ HBC.out).2.1
    have HW3 := Lib.hid (BOX.out _ HBC.out).2.2
    have g1 : wc.cell? ⟨gb, 1, none⟩ = some (.int .i64 0) := HBM.out.cell rfl
    have s0 : wc.cell? ⟨(w.heap.size + 1), 0, none⟩ = some (.string ⟨#[]⟩) := (BZ3).cell rfl; have s1 : wc.cell? ⟨(w.heap.size + 1), 1, none⟩ = some (.int .i64 0) := (BZ3).cell rfl; have s2 : wc.cell? ⟨(w.heap.size + 1), 2, none⟩ = some (.int .i64 0) := (BZ3).cell rfl; have s3 : wc.cell? ⟨(w.heap.size + 1), 3, none⟩ = some (.int .i64 0) := (BZ3).cell rfl; have s4 : wc.cell? ⟨(w.heap.size + 1), 4, none⟩ = some (.int .i64 0) := (BZ3).cell rfl; have s5 : wc.cell? ⟨(w.heap.size + 1), 5, none⟩ = some (.int .i64 0) := (BZ3).cell rfl; have s6 : wc.cell? ⟨(w.heap.size + 1), 6, none⟩ = some (.string ⟨#[]⟩) := (BZ3).cell rfl; have s7 : wc.cell? ⟨(w.heap.size + 1), 7, none⟩ = some (.slice none 0 0) := (BZ3).cell rfl
    have v0 := (BZ3).free 0; have v1 := (BZ3).free 1; have v2 := (BZ3).free 2; have v3 := (BZ3).free 3; have v4 := (BZ3).free 4; have v5 := (BZ3).free 5; have v6 := (BZ3).free 6; have v7 := (BZ3).free 7
    clear BZ3 SZ3
    go_wp2
    refine bodyPost_ret (v := .tuple #[.agg #[.string ⟨#[]⟩, .int .i64 0, .int .i64 0, .int .i64 0, .int .i64 0, .int .i64 0, .string ⟨#[]⟩, .slice none 0 0], .int .i64 11]) (by simp [results, Tryz.f9, go_sem, *]) rfl ⟨none, 0, 0, rfl, RB.nil, Nat.le_refl _, Nat.zero_le _, ?_⟩
    exact ((((((((HW3.out).setCell (by simp) _).setCell (by simp) _).setCell (by simp) _).setCell (by simp) _).setCell (by simp) _).setCell (by simp) _).setCell (by simp) _).setCell (by simp) _
theorem mfrom_1 (p nm l : ByteArray) (m u g t z k : Int) (B : Option Addr) (nr cr : Nat) (rs : List Rc.Rec) (A : Option Addr) (n c : Nat) (xs : List Int) (w : World) (hr : RL w w.heap.size B nr rs) (hnr : nr ≤ 100000) (ha : RB w w.heap.size A n xs) (hn : n ≤ 100000) (hp : p.size ≤ 1000) (hnm : nm.size ≤ 1000) (hl : l.size ≤ 1000)
    (hs : ∀ r ∈ rs, r.2.size ≤ 100000) (hk : Mb.kin k = 1) (hE : Mb.may (Mb.fP rs p nm) (⟨#[]⟩) 1 m u g t n = 0) :
    Calls Tryz.prog 9 #[.agg #[.string p, .string nm, .int .i64 m, .int .i64 u, .int .i64 g, .int .i64 t, .int .i64 z, .int .u8 k, .string l], .slice B nr cr, .slice A n c] w fun e w' => ∃ A' n' c', e = .returned (.tuple #[.agg #[.string (Mb.fP rs p nm), .int .i64 1, .int .i64 m, .int .i64 u, .int .i64 g, .int .i64 t, .string (⟨#[]⟩), .slice A' n' c'], .int .i64 0]) ∧ OBn w' w.heap.size 5 (.slice A' n' c') n' xs ∧ n' ≤ c' ∧ c' ≤ maxLen ∧ Below w.heap.size w w' := by
  have hxl := ha.1
  have cpa := fun W => hpath_any p nm l m u g t z k W (by omega) (by omega)
  have ctp := fun W (hW : Below w.heap.size w W) d => mtold_any B nr cr rs Mb.kPath d W ((hr.below hW).more hW.size) hnr
  have ctl := fun W (hW : Below w.heap.size w W) d => mtold_any B nr cr rs Mb.kLink d W ((hr.below hW).more hW.size) hnr
  have ckk := fun W => mkind_any k W
  rw [hk] at ckk
  have ccl := fun W (hb : Below w.heap.size w W) => bclone_any A n c xs W ((ha.below hb).more hb.size) (by omega)
  have ejn : (if p.size = 0 then nm else p ++ ⟨#[47]⟩ ++ nm) = Mb.join p nm := rfl
  rw [ejn] at cpa
  clear ejn
  have hjs : (Mb.join p nm).size ≤ 2001 := by
    unfold Mb.join
    split
    · omega
    · rw [ByteArray.size_append, ByteArray.size_append]
      have : (⟨#[47]⟩ : ByteArray).size = 1 := rfl
      omega
  have hps : (Mb.fP rs p nm).size ≤ 100000 := Mb.told_size (fun r hr => by have := hs r hr; omega) (by omega)
  have hls : (Mb.told8 rs Mb.kLink l).size ≤ 100000 := Mb.told_size hs (by omega)
  have eP : Mb.told8 rs Mb.kPath (Mb.join p nm) = Mb.fP rs p nm := rfl
  have ctp2 := fun W (hW : Below w.heap.size w W) => ctp W hW (Mb.join p nm)
  have ctl2 := fun W (hW : Below w.heap.size w W) => ctl W hW l
  rw [eP] at ctp2
  unfold Mb.kPath at ctp2
  have ek : Mb.kLink = ⟨#[108, 105, 110, 107, 112, 97, 116, 104]⟩ := rfl
  generalize Mb.fP rs p nm = P at *
  generalize Mb.join p nm = J at *
  generalize Mb.told8 rs Mb.kLink l = LL at *
  rw [ek] at ctl2
  have CPA := Lib.hid cpa; have CTP := Lib.hid ctp2; have CTL := Lib.hid (fun W (hW : Below w.heap.size w W) (_ : Unit) => ctl2 W hW); have CKK := Lib.hid ckk; have CCL := Lib.hid ccl; have HXL := Lib.hid hxl
  have cmy := fun (A' : Option Addr) (c' : Nat) W => mmay_any P ⟨#[]⟩ 1 m u g t A' n c' W (by omega) (by decide) (by omega)
  rw [hE] at cmy
  have CMY := Lib.hid cmy
  clear cmy hE
  clear cpa ctp ctl ctp2 ctl2 ckk ccl hr ha ek eP hjs hxl hk
  go_enter Tryz.func9, Tryz.ntmps9
  go_upto_region 1 with (fail)
  obtain ⟨W0, hW0⟩ : ∃ W0, W0 = ((w.alloc (.cells #[.string p, .string nm, .int .i64 m, .int .i64 u, .int .i64 g, .int .i64 t, .int .i64 z, .int .u8 k, .string l] 40)).alloc (.cells #[.string ⟨#[]⟩, .int .i64 0, .int .i64 0, .int .i64 0, .int .i64 0, .int .i64 0, .string ⟨#[]⟩, .slice none 0 0] 35)) := ⟨_, rfl⟩
  rw [← hW0]
  have SZ0 := Lib.hid (show W0.heap.size = w.heap.size + 1 + 1 by rw [hW0]; simp)
  have BOX := Lib.hid (show ∀ W, Below W0.heap.size W0 W → BX W w.heap.size 40 #[.string p, .string nm, .int .i64 m, .int .i64 u, .int .i64 g, .int .i64 t, .int .i64 z, .int .u8 k, .string l] ∧ BX W (w.heap.size + 1) 35 #[.string ⟨#[]⟩, .int .i64 0, .int .i64 0, .int .i64 0, .int .i64 0, .int .i64 0, .string ⟨#[]⟩, .slice none 0 0] ∧ Below w.heap.size w W by
    intro W hb
    have hsz := SZ0.out
    rw [hsz] at hb
    rw [hW0] at hb
    refine ⟨((BX.new w _ _).alloc _).below hb (by omega), ?_, (((Below.refl _ w).alloc (Nat.le_refl _) _).alloc (by simp) _).trans (hb.mono (by omega))⟩
    have h := (BX.new (w.alloc (.cells #[.string p, .string nm, .int .i64 m, .int .i64 u, .int .i64 g, .int .i64 t, .int .i64 z, .int .u8 k, .string l] 40)) 35 #[.string ⟨#[]⟩, .int .i64 0, .int .i64 0, .int .i64 0, .int .i64 0, .int .i64 0, .string ⟨#[]⟩, .slice none 0 0]).below (B := w.heap.size + 1 + 1) (w' := W) hb (by simp)
    simpa using h)
  clear hW0
  go_cut [8] (fun v wx => ∃ gb, v = .pointer (some ⟨gb, 0, none⟩) ∧ Hid (W0.heap.size ≤ gb) ∧ Hid (Below W0.heap.size W0 wx) ∧ Hid (BX wx gb 35 #[.string P, .int .i64 1, .int .i64 m, .int .i64 u, .int .i64 g, .int .i64 t, .string ⟨#[]⟩, .slice none 0 0]))
  case first =>
    have hacc : Below W0.heap.size W0 W0.drew := below_drewN (Below.refl _ _) 1
    have alls : ∀ W, Below W0.heap.size W0 W → W.cell? ⟨w.heap.size, 0, none⟩ = some (.string p) ∧ W.cell? ⟨w.heap.size, 1, none⟩ = some (.string nm) ∧ W.cell? ⟨w.heap.size, 2, none⟩ = some (.int .i64 m) ∧ W.cell? ⟨w.heap.size, 3, none⟩ = some (.int .i64 u) ∧ W.cell? ⟨w.heap.size, 4, none⟩ = some (.int .i64 g) ∧ W.cell? ⟨w.heap.size, 5, none⟩ = some (.int .i64 t) ∧ W.cell? ⟨w.heap.size, 6, none⟩ = some (.int .i64 z) ∧ W.cell? ⟨w.heap.size, 7, none⟩ = some (.int .u8 k) ∧ W.cell? ⟨w.heap.size, 8, none⟩ = some (.string l) := fun W hW => by
      obtain ⟨b, _, _⟩ := BOX.out W hW
      exact ⟨b.cell rfl, b.cell rfl, b.cell rfl, b.cell rfl, b.cell rfl, b.cell rfl, b.cell rfl, b.cell rfl, b.cell rfl⟩
    have ALLS := Lib.hid alls
    clear alls
    obtain ⟨y0, y1, y2, y3, y4, y5, y6, y7, y8⟩ := ALLS.out _ hacc
    obtain ⟨x0, x1, x2, x3, x4, x5, x6, x7, x8⟩ := ALLS.out _ (Below.refl W0.heap.size W0)
    have hne0 : W0.heap.size ≠ w.heap.size := by rw [SZ0.out]; omega
    go_region_held3 (fun w' => w'.cell? ⟨w.heap.size, 0, none⟩ = some (.string p) ∧ w'.cell? ⟨w.heap.size, 1, none⟩ = some (.string nm) ∧ w'.cell? ⟨w.heap.size, 2, none⟩ = some (.int .i64 m) ∧ w'.cell? ⟨w.heap.size, 3, none⟩ = some (.int .i64 u) ∧ w'.cell? ⟨w.heap.size, 4, none⟩ = some (.int .i64 g) ∧ w'.cell? ⟨w.heap.size, 5, none⟩ = some (.int .i64 t) ∧ w'.cell? ⟨w.heap.size, 6, none⟩ = some (.int .i64 z) ∧ w'.cell? ⟨w.heap.size, 7, none⟩ = some (.int .u8 k) ∧ w'.cell? ⟨w.heap.size, 8, none⟩ = some (.string l)) (first | go_keep | (exact ALLS.out _ hacc) | (exact ALLS.out _ (hacc.alloc hacc.size _))) (first
      | (go_at_call 32; (with_reducible refine (CPA.out _).mono ?_); rintro e w1 ⟨rfl, hb1⟩; (first | (replace hacc := bthen hacc hb1; have hne1 : w1.heap.size ≠ w.heap.size := (by have h1 := hacc.size; have h2 := SZ0.out; omega)) | (have bz : BX w1 W0.heap.size 35 #[.string ⟨#[]⟩, .int .i64 0, .int .i64 0, .int .i64 0, .int .i64 0, .int .i64 0, .string ⟨#[]⟩, .slice none 0 0] := (BX.drew (BX.new _ _ _)).later hb1; replace hacc := ((mb_new W0 (.cells #[.string ⟨#[]⟩, .int .i64 0, .int .i64 0, .int .i64 0, .int .i64 0, .int .i64 0, .string ⟨#[]⟩, .slice none 0 0] 35)).drew).trans (Below.mono hb1 (by simp <;> omega)); have z0 : w1.cell? ⟨W0.heap.size, 0, none⟩ = some (.string ⟨#[]⟩) := bz.cell rfl; have f0 := bz.free 0; have z1 : w1.cell? ⟨W0.heap.size, 1, none⟩ = some (.int .i64 0) := bz.cell rfl; have f1 := bz.free 1; have z2 : w1.cell? ⟨W0.heap.size, 2, none⟩ = some (.int .i64 0) := bz.cell rfl; have f2 := bz.free 2; have z3 : w1.cell? ⟨W0.heap.size, 3, none⟩ = some (.int .i64 0) := bz.cell rfl; have f3 := bz.free 3; have z4 : w1.cell? ⟨W0.heap.size, 4, none⟩ = some (.int .i64 0) := bz.cell rfl; have f4 := bz.free 4; have z5 : w1.cell? ⟨W0.heap.size, 5, none⟩ = some (.int .i64 0) := bz.cell rfl; have f5 := bz.free 5; have z6 : w1.cell? ⟨W0.heap.size, 6, none⟩ = some (.string ⟨#[]⟩) := bz.cell rfl; have f6 := bz.free 6; have z7 : w1.cell? ⟨W0.heap.size, 7, none⟩ = some (.slice none 0 0) := bz.cell rfl; have f7 := bz.free 7)))
      | (go_at_call 31; (with_reducible refine (CTP.out _ (by first | exact (BOX.out _ hacc).2.2 | exact (BOX.out _ (hacc.alloc hacc.size _)).2.2 | exact (BOX.out _ (mb_new W0 _).drew).2.2)).mono ?_); rintro e w2 ⟨rfl, rfl⟩)
      | (go_at_call 29; (with_reducible refine (CKK.out _).mono ?_); rintro e w3 ⟨rfl, rfl⟩))
    all_goals
      go_wp2
      go_meet
      first
        | exact ⟨_, rfl, hacc.size, hacc.alloc hacc.size _, BX.new _ _ _⟩
        | exact ⟨_, rfl, Nat.le_refl _, ((((((((hacc).setCell (Nat.le_refl _) _).setCell (Nat.le_refl _) _).setCell (Nat.le_refl _) _).setCell (Nat.le_refl _) _).setCell (Nat.le_refl _) _).setCell (Nat.le_refl _) _).setCell (Nat.le_refl _) _).setCell (Nat.le_refl _) _, (by have h := (((((((bz.set 0 (.string P)).set 1 (.int .i64 1)).set 2 (.int .i64 m)).set 3 (.int .i64 u)).set 4 (.int .i64 g)).set 5 (.int .i64 t)).set 6 (.string ⟨#[]⟩)).set 7 (.slice none 0 0); show BX _ _ _ _; simpa using h)⟩
  case rest =>
    obtain ⟨gb, rfl, HG, HBC, HBM⟩ := hcut
    have HNE := Lib.hid (show w.heap.size + 1 ≠ gb by have h1 := HG.out; have h2 := SZ0.out; intro h; change W0.heap.size ≤ gb at h1; omega)
    have HGW := Lib.hid (show w.heap.size ≤ gb by have h1 := HG.out; have h2 := SZ0.out; change W0.heap.size ≤ gb at h1; omega)
    have HGL := Lib.hid (show gb < wc.heap.size from HBM.out.lt)
    have HZL := Lib.hid (show w.heap.size + 1 < wc.heap.size from (BOX.out _ HBC.out).2.1.lt)
    have g0 : wc.cell? ⟨gb, 0, none⟩ = some (.string P) := (HBM.out).cell rfl; have g1 : wc.cell? ⟨gb, 1, none⟩ = some (.int .i64 1) := (HBM.out).cell rfl; have g2 : wc.cell? ⟨gb, 2, none⟩ = some (.int .i64 m) := (HBM.out).cell rfl; have g3 : wc.cell? ⟨gb, 3, none⟩ = some (.int .i64 u) := (HBM.out).cell rfl; have g4 : wc.cell? ⟨gb, 4, none⟩ = some (.int .i64 g) := (HBM.out).cell rfl; have g5 : wc.cell? ⟨gb, 5, none⟩ = some (.int .i64 t) := (HBM.out).cell rfl; have g6 : wc.cell? ⟨gb, 6, none⟩ = some (.string ⟨#[]⟩) := (HBM.out).cell rfl; have g7 : wc.cell? ⟨gb, 7, none⟩ = some (.slice none 0 0) := (HBM.out).cell rfl
    go_wp2_with (first
      | (go_at_call 33; (with_reducible refine (CCL.out _ (BOX.out _ HBC.out).2.2).mono ?_); rintro e w2 ⟨v2, rfl, ho2, hb2⟩; obtain ⟨A2, c2, rfl, _, hcc, hcm⟩ := OBn.slice ho2; have BM2 := Lib.hid (HBM.out.later hb2); have k0 : w2.cell? ⟨gb, 0, none⟩ = some (.string P) := (BM2.out).cell rfl; have k1 : w2.cell? ⟨gb, 1, none⟩ = some (.int .i64 1) := (BM2.out).cell rfl; have k2 : w2.cell? ⟨gb, 2, none⟩ = some (.int .i64 m) := (BM2.out).cell rfl; have k3 : w2.cell? ⟨gb, 3, none⟩ = some (.int .i64 u) := (BM2.out).cell rfl; have k4 : w2.cell? ⟨gb, 4, none⟩ = some (.int .i64 g) := (BM2.out).cell rfl; have k5 : w2.cell? ⟨gb, 5, none⟩ = some (.int .i64 t) := (BM2.out).cell rfl; have k6 : w2.cell? ⟨gb, 6, none⟩ = some (.string ⟨#[]⟩) := (BM2.out).cell rfl; have k7 : w2.cell? ⟨gb, 7, none⟩ = some (.slice none 0 0) := (BM2.out).cell rfl; have fg := BM2.out.free 7; have HO2 := Lib.hid (OBn.aside ho2 HGL.out 7 (.slice A2 n c2)); have BZ2 := Lib.hid (BX.other ((BOX.out _ HBC.out).2.1.later hb2) HNE.out (j := 7) (.slice A2 n c2)); have BS2 := Lib.hid (BM2.out.set 7 (.slice A2 n c2)); have HW2 := Lib.hid (Below.setCell ((BOX.out _ HBC.out).2.2.trans (hb2.mono (BOX.out _ HBC.out).2.2.size)) (p := ⟨gb, 7, none⟩) HGW.out (.slice A2 n c2)); have SZ2 := Lib.hid hb2.size; clear ho2 hb2)
      | (go_at_call 34; (with_reducible refine (CMY.out _ _ _).mono ?_); rintro e w3 ⟨rfl, hb3⟩; have BM3 : BX w3 gb 35 #[.string P, .int .i64 1, .int .i64 m, .int .i64 u, .int .i64 g, .int .i64 t, .string ⟨#[]⟩, .slice A2 n c2] := (by have h := BS2.out.later hb3; simpa using h); have BZ3 := BZ2.out.later hb3; have HW3 := Lib.hid (HW2.out.trans (hb3.mono HW2.out.size)); have r0 : w3.cell? ⟨gb, 0, none⟩ = some (.string P) := (BM3).cell rfl; have r1 : w3.cell? ⟨gb, 1, none⟩ = some (.int .i64 1) := (BM3).cell rfl; have r2 : w3.cell? ⟨gb, 2, none⟩ = some (.int .i64 m) := (BM3).cell rfl; have r3 : w3.cell? ⟨gb, 3, none⟩ = some (.int .i64 u) := (BM3).cell rfl; have r4 : w3.cell? ⟨gb, 4, none⟩ = some (.int .i64 g) := (BM3).cell rfl; have r5 : w3.cell? ⟨gb, 5, none⟩ = some (.int .i64 t) := (BM3).cell rfl; have r6 : w3.cell? ⟨gb, 6, none⟩ = some (.string ⟨#[]⟩) := (BM3).cell rfl; have r7 : w3.cell? ⟨gb, 7, none⟩ = some (.slice A2 n c2) := (BM3).cell rfl; have s0 : w3.cell? ⟨(w.heap.size + 1), 0, none⟩ = some (.string ⟨#[]⟩) := (BZ3).cell rfl; have s1 : w3.cell? ⟨(w.heap.size + 1), 1, none⟩ = some (.int .i64 0) := (BZ3).cell rfl; have s2 : w3.cell? ⟨(w.heap.size + 1), 2, none⟩ = some (.int .i64 0) := (BZ3).cell rfl; have s3 : w3.cell? ⟨(w.heap.size + 1), 3, none⟩ = some (.int .i64 0) := (BZ3).cell rfl; have s4 : w3.cell? ⟨(w.heap.size + 1), 4, none⟩ = some (.int .i64 0) := (BZ3).cell rfl; have s5 : w3.cell? ⟨(w.heap.size + 1), 5, none⟩ = some (.int .i64 0) := (BZ3).cell rfl; have s6 : w3.cell? ⟨(w.heap.size + 1), 6, none⟩ = some (.string ⟨#[]⟩) := (BZ3).cell rfl; have s7 : w3.cell? ⟨(w.heap.size + 1), 7, none⟩ = some (.slice none 0 0) := (BZ3).cell rfl; have v0 := (BZ3).free 0; have v1 := (BZ3).free 1; have v2 := (BZ3).free 2; have v3 := (BZ3).free 3; have v4 := (BZ3).free 4; have v5 := (BZ3).free 5; have v6 := (BZ3).free 6; have v7 := (BZ3).free 7; have BZ3' := Lib.hid BZ3; have HO3 := Lib.hid (OBn.later HO2.out hb3); clear BM3 BZ3 hb3))
    refine bodyPost_ret (v := .tuple #[.agg #[.string P, .int .i64 1, .int .i64 m, .int .i64 u, .int .i64 g, .int .i64 t, .string ⟨#[]⟩, .slice A2 n c2], .int .i64 0]) (by simp [results, Tryz.f9, go_sem, *]) rfl ⟨A2, n, c2, rfl, ?_, ?_, ?_, ?_⟩
    · exact OBn.base8 (OBn.aside (OBn.aside (OBn.aside (OBn.aside (OBn.aside (OBn.aside (OBn.aside (OBn.aside HO3.out HZL.out 0 _) HZL.out 1 _) HZL.out 2 _) HZL.out 3 _) HZL.out 4 _) HZL.out 5 _) HZL.out 6 _) HZL.out 7 _) (by have := HZL.out; omega)
    · exact hcc
    · exact hcm
    · exact ((((((((HW3.out).setCell (by simp) _).setCell (by simp) _).setCell (by simp) _).setCell (by simp) _).setCell (by simp) _).setCell (by simp) _).setCell (by simp) _).setCell (by simp) _
theorem mfrom_1b (p nm l : ByteArray) (m u g t z k : Int) (B : Option Addr) (nr cr : Nat) (rs : List Rc.Rec) (A : Option Addr) (n c : Nat) (xs : List Int) (w : World) (hr : RL w w.heap.size B nr rs) (hnr : nr ≤ 100000) (ha : RB w w.heap.size A n xs) (hn : n ≤ 100000) (hp : p.size ≤ 1000) (hnm : nm.size ≤ 1000) (hl : l.size ≤ 1000)
    (hs : ∀ r ∈ rs, r.2.size ≤ 100000) (hk : Mb.kin k = 1) (hE : ¬ Mb.may (Mb.fP rs p nm) (⟨#[]⟩) 1 m u g t n = 0) :
    Calls Tryz.prog 9 #[.agg #[.string p, .string nm, .int .i64 m, .int .i64 u, .int .i64 g, .int .i64 t, .int .i64 z, .int .u8 k, .string l], .slice B nr cr, .slice A n c] w fun e w' => ∃ A' n' c', e = .returned (.tuple #[.agg #[.string ⟨#[]⟩, .int .i64 0, .int .i64 0, .int .i64 0, .int .i64 0, .int .i64 0, .string ⟨#[]⟩, .slice A' n' c'], .int .i64 (Mb.may (Mb.fP rs p nm) (⟨#[]⟩) 1 m u g t n)]) ∧ RB w' w'.heap.size A' n' [] ∧ n' ≤ c' ∧ c' ≤ maxLen ∧ Below w.heap.size w w' := by
  have hxl := ha.1
  have cpa := fun W => hpath_any p nm l m u g t z k W (by omega) (by omega)
  have ctp := fun W (hW : Below w.heap.size w W) d => mtold_any B nr cr rs Mb.kPath d W ((hr.below hW).more hW.size) hnr
  have ctl := fun W (hW : Below w.heap.size w W) d => mtold_any B nr cr rs Mb.kLink d W ((hr.below hW).more hW.size) hnr
  have ckk := fun W => mkind_any k W
  rw [hk] at ckk
  have ccl := fun W (hb : Below w.heap.size w W) => bclone_any A n c xs W ((ha.below hb).more hb.size) (by omega)
  have ejn : (if p.size = 0 then nm else p ++ ⟨#[47]⟩ ++ nm) = Mb.join p nm := rfl
  rw [ejn] at cpa
  clear ejn
  have hjs : (Mb.join p nm).size ≤ 2001 := by
    unfold Mb.join
    split
    · omega
    · rw [ByteArray.size_append, ByteArray.size_append]
      have : (⟨#[47]⟩ : ByteArray).size = 1 := rfl
      omega
  have hps : (Mb.fP rs p nm).size ≤ 100000 := Mb.told_size (fun r hr => by have := hs r hr; omega) (by omega)
  have hls : (Mb.told8 rs Mb.kLink l).size ≤ 100000 := Mb.told_size hs (by omega)
  have eP : Mb.told8 rs Mb.kPath (Mb.join p nm) = Mb.fP rs p nm := rfl
  have ctp2 := fun W (hW : Below w.heap.size w W) => ctp W hW (Mb.join p nm)
  have ctl2 := fun W (hW : Below w.heap.size w W) => ctl W hW l
  rw [eP] at ctp2
  unfold Mb.kPath at ctp2
  have ek : Mb.kLink = ⟨#[108, 105, 110, 107, 112, 97, 116, 104]⟩ := rfl
  generalize Mb.fP rs p nm = P at *
  generalize Mb.join p nm = J at *
  generalize Mb.told8 rs Mb.kLink l = LL at *
  rw [ek] at ctl2
  have CPA := Lib.hid cpa; have CTP := Lib.hid ctp2; have CTL := Lib.hid (fun W (hW : Below w.heap.size w W) (_ : Unit) => ctl2 W hW); have CKK := Lib.hid ckk; have CCL := Lib.hid ccl; have HXL := Lib.hid hxl
  have cmy := fun (A' : Option Addr) (c' : Nat) W => mmay_any P ⟨#[]⟩ 1 m u g t A' n c' W (by omega) (by decide) (by omega)
  generalize Mb.may P ⟨#[]⟩ 1 m u g t n = E at *
  have hE1 : (E == 0) = false := by simp [hE]
  have hE2 : (E != 0) = true := by simp [hE]
  have CMY := Lib.hid cmy
  clear cmy hE
  clear cpa ctp ctl ctp2 ctl2 ckk ccl hr ha ek eP hjs hxl hk
  go_enter Tryz.func9, Tryz.ntmps9
  go_upto_region 1 with (fail)
  obtain ⟨W0, hW0⟩ : ∃ W0, W0 = ((w.alloc (.cells #[.string p, .string nm, .int .i64 m, .int .i64 u, .int .i64 g, .int .i64 t, .int .i64 z, .int .u8 k, .string l] 40)).alloc (.cells #[.string ⟨#[]⟩, .int .i64 0, .int .i64 0, .int .i64 0, .int .i64 0, .int .i64 0, .string ⟨#[]⟩, .slice none 0 0] 35)) := ⟨_, rfl⟩
  rw [← hW0]
  have SZ0 := Lib.hid (show W0.heap.size = w.heap.size + 1 + 1 by rw [hW0]; simp)
  have BOX := Lib.hid (show ∀ W, Below W0.heap.size W0 W → BX W w.heap.size 40 #[.string p, .string nm, .int .i64 m, .int .i64 u, .int .i64 g, .int .i64 t, .int .i64 z, .int .u8 k, .string l] ∧ BX W (w.heap.size + 1) 35 #[.string ⟨#[]⟩, .int .i64 0, .int .i64 0, .int .i64 0, .int .i64 0, .int .i64 0, .string ⟨#[]⟩, .slice none 0 0] ∧ Below w.heap.size w W by
    intro W hb
    have hsz := SZ0.out
    rw [hsz] at hb
    rw [hW0] at hb
    refine ⟨((BX.new w _ _).alloc _).below hb (by omega), ?_, (((Below.refl _ w).alloc (Nat.le_refl _) _).alloc (by simp) _).trans (hb.mono (by omega))⟩
    have h := (BX.new (w.alloc (.cells #[.string p, .string nm, .int .i64 m, .int .i64 u, .int .i64 g, .int .i64 t, .int .i64 z, .int .u8 k, .string l] 40)) 35 #[.string ⟨#[]⟩, .int .i64 0, .int .i64 0, .int .i64 0, .int .i64 0, .int .i64 0, .string ⟨#[]⟩, .slice none 0 0]).below (B := w.heap.size + 1 + 1) (w' := W) hb (by simp)
    simpa using h)
  clear hW0
  go_cut [8] (fun v wx => ∃ gb, v = .pointer (some ⟨gb, 0, none⟩) ∧ Hid (W0.heap.size ≤ gb) ∧ Hid (Below W0.heap.size W0 wx) ∧ Hid (BX wx gb 35 #[.string P, .int .i64 1, .int .i64 m, .int .i64 u, .int .i64 g, .int .i64 t, .string ⟨#[]⟩, .slice none 0 0]))
  case first =>
    have hacc : Below W0.heap.size W0 W0.drew := below_drewN (Below.refl _ _) 1
    have alls : ∀ W, Below W0.heap.size W0 W → W.cell? ⟨w.heap.size, 0, none⟩ = some (.string p) ∧ W.cell? ⟨w.heap.size, 1, none⟩ = some (.string nm) ∧ W.cell? ⟨w.heap.size, 2, none⟩ = some (.int .i64 m) ∧ W.cell? ⟨w.heap.size, 3, none⟩ = some (.int .i64 u) ∧ W.cell? ⟨w.heap.size, 4, none⟩ = some (.int .i64 g) ∧ W.cell? ⟨w.heap.size, 5, none⟩ = some (.int .i64 t) ∧ W.cell? ⟨w.heap.size, 6, none⟩ = some (.int .i64 z) ∧ W.cell? ⟨w.heap.size, 7, none⟩ = some (.int .u8 k) ∧ W.cell? ⟨w.heap.size, 8, none⟩ = some (.string l) := fun W hW => by
      obtain ⟨b, _, _⟩ := BOX.out W hW
      exact ⟨b.cell rfl, b.cell rfl, b.cell rfl, b.cell rfl, b.cell rfl, b.cell rfl, b.cell rfl, b.cell rfl, b.cell rfl⟩
    have ALLS := Lib.hid alls
    clear alls
    obtain ⟨y0, y1, y2, y3, y4, y5, y6, y7, y8⟩ := ALLS.out _ hacc
    obtain ⟨x0, x1, x2, x3, x4, x5, x6, x7, x8⟩ := ALLS.out _ (Below.refl W0.heap.size W0)
    have hne0 : W0.heap.size ≠ w.heap.size := by rw [SZ0.out]; omega
    go_region_held3 (fun w' => w'.cell? ⟨w.heap.size, 0, none⟩ = some (.string p) ∧ w'.cell? ⟨w.heap.size, 1, none⟩ = some (.string nm) ∧ w'.cell? ⟨w.heap.size, 2, none⟩ = some (.int .i64 m) ∧ w'.cell? ⟨w.heap.size, 3, none⟩ = some (.int .i64 u) ∧ w'.cell? ⟨w.heap.size, 4, none⟩ = some (.int .i64 g) ∧ w'.cell? ⟨w.heap.size, 5, none⟩ = some (.int .i64 t) ∧ w'.cell? ⟨w.heap.size, 6, none⟩ = some (.int .i64 z) ∧ w'.cell? ⟨w.heap.size, 7, none⟩ = some (.int .u8 k) ∧ w'.cell? ⟨w.heap.size, 8, none⟩ = some (.string l)) (first | go_keep | (exact ALLS.out _ hacc) | (exact ALLS.out _ (hacc.alloc hacc.size _))) (first
      | (go_at_call 32; (with_reducible refine (CPA.out _).mono ?_); rintro e w1 ⟨rfl, hb1⟩; (first | (replace hacc := bthen hacc hb1; have hne1 : w1.heap.size ≠ w.heap.size := (by have h1 := hacc.size; have h2 := SZ0.out; omega)) | (have bz : BX w1 W0.heap.size 35 #[.string ⟨#[]⟩, .int .i64 0, .int .i64 0, .int .i64 0, .int .i64 0, .int .i64 0, .string ⟨#[]⟩, .slice none 0 0] := (BX.drew (BX.new _ _ _)).later hb1; replace hacc := ((mb_new W0 (.cells #[.string ⟨#[]⟩, .int .i64 0, .int .i64 0, .int .i64 0, .int .i64 0, .int .i64 0, .string ⟨#[]⟩, .slice none 0 0] 35)).drew).trans (Below.mono hb1 (by simp <;> omega)); have z0 : w1.cell? ⟨W0.heap.size, 0, none⟩ = some (.string ⟨#[]⟩) := bz.cell rfl; have f0 := bz.free 0; have z1 : w1.cell? ⟨W0.heap.size, 1, none⟩ = some (.int .i64 0) := bz.cell rfl; have f1 := bz.free 1; have z2 : w1.cell? ⟨W0.heap.size, 2, none⟩ = some (.int .i64 0) := bz.cell rfl; have f2 := bz.free 2; have z3 : w1.cell? ⟨W0.heap.size, 3, none⟩ = some (.int .i64 0) := bz.cell rfl; have f3 := bz.free 3; have z4 : w1.cell? ⟨W0.heap.size, 4, none⟩ = some (.int .i64 0) := bz.cell rfl; have f4 := bz.free 4; have z5 : w1.cell? ⟨W0.heap.size, 5, none⟩ = some (.int .i64 0) := bz.cell rfl; have f5 := bz.free 5; have z6 : w1.cell? ⟨W0.heap.size, 6, none⟩ = some (.string ⟨#[]⟩) := bz.cell rfl; have f6 := bz.free 6; have z7 : w1.cell? ⟨W0.heap.size, 7, none⟩ = some (.slice none 0 0) := bz.cell rfl; have f7 := bz.free 7)))
      | (go_at_call 31; (with_reducible refine (CTP.out _ (by first | exact (BOX.out _ hacc).2.2 | exact (BOX.out _ (hacc.alloc hacc.size _)).2.2 | exact (BOX.out _ (mb_new W0 _).drew).2.2)).mono ?_); rintro e w2 ⟨rfl, rfl⟩)
      | (go_at_call 29; (with_reducible refine (CKK.out _).mono ?_); rintro e w3 ⟨rfl, rfl⟩))
    all_goals
      go_wp2
      go_meet
      first
        | exact ⟨_, rfl, hacc.size, hacc.alloc hacc.size _, BX.new _ _ _⟩
        | exact ⟨_, rfl, Nat.le_refl _, ((((((((hacc).setCell (Nat.le_refl _) _).setCell (Nat.le_refl _) _).setCell (Nat.le_refl _) _).setCell (Nat.le_refl _) _).setCell (Nat.le_refl _) _).setCell (Nat.le_refl _) _).setCell (Nat.le_refl _) _).setCell (Nat.le_refl _) _, (by have h := (((((((bz.set 0 (.string P)).set 1 (.int .i64 1)).set 2 (.int .i64 m)).set 3 (.int .i64 u)).set 4 (.int .i64 g)).set 5 (.int .i64 t)).set 6 (.string ⟨#[]⟩)).set 7 (.slice none 0 0); show BX _ _ _ _; simpa using h)⟩
  case rest =>
    obtain ⟨gb, rfl, HG, HBC, HBM⟩ := hcut
    have HNE := Lib.hid (show w.heap.size + 1 ≠ gb by have h1 := HG.out; have h2 := SZ0.out; intro h; change W0.heap.size ≤ gb at h1; omega)
    have HGW := Lib.hid (show w.heap.size ≤ gb by have h1 := HG.out; have h2 := SZ0.out; change W0.heap.size ≤ gb at h1; omega)
    have HGL := Lib.hid (show gb < wc.heap.size from HBM.out.lt)
    have HZL := Lib.hid (show w.heap.size + 1 < wc.heap.size from (BOX.out _ HBC.out).2.1.lt)
    have g0 : wc.cell? ⟨gb, 0, none⟩ = some (.string P) := (HBM.out).cell rfl; have g1 : wc.cell? ⟨gb, 1, none⟩ = some (.int .i64 1) := (HBM.out).cell rfl; have g2 : wc.cell? ⟨gb, 2, none⟩ = some (.int .i64 m) := (HBM.out).cell rfl; have g3 : wc.cell? ⟨gb, 3, none⟩ = some (.int .i64 u) := (HBM.out).cell rfl; have g4 : wc.cell? ⟨gb, 4, none⟩ = some (.int .i64 g) := (HBM.out).cell rfl; have g5 : wc.cell? ⟨gb, 5, none⟩ = some (.int .i64 t) := (HBM.out).cell rfl; have g6 : wc.cell? ⟨gb, 6, none⟩ = some (.string ⟨#[]⟩) := (HBM.out).cell rfl; have g7 : wc.cell? ⟨gb, 7, none⟩ = some (.slice none 0 0) := (HBM.out).cell rfl
    go_wp2_with (first
      | (go_at_call 33; (with_reducible refine (CCL.out _ (BOX.out _ HBC.out).2.2).mono ?_); rintro e w2 ⟨v2, rfl, ho2, hb2⟩; obtain ⟨A2, c2, rfl, _, hcc, hcm⟩ := OBn.slice ho2; have BM2 := Lib.hid (HBM.out.later hb2); have k0 : w2.cell? ⟨gb, 0, none⟩ = some (.string P) := (BM2.out).cell rfl; have k1 : w2.cell? ⟨gb, 1, none⟩ = some (.int .i64 1) := (BM2.out).cell rfl; have k2 : w2.cell? ⟨gb, 2, none⟩ = some (.int .i64 m) := (BM2.out).cell rfl; have k3 : w2.cell? ⟨gb, 3, none⟩ = some (.int .i64 u) := (BM2.out).cell rfl; have k4 : w2.cell? ⟨gb, 4, none⟩ = some (.int .i64 g) := (BM2.out).cell rfl; have k5 : w2.cell? ⟨gb, 5, none⟩ = some (.int .i64 t) := (BM2.out).cell rfl; have k6 : w2.cell? ⟨gb, 6, none⟩ = some (.string ⟨#[]⟩) := (BM2.out).cell rfl; have k7 : w2.cell? ⟨gb, 7, none⟩ = some (.slice none 0 0) := (BM2.out).cell rfl; have fg := BM2.out.free 7; have HO2 := Lib.hid (OBn.aside ho2 HGL.out 7 (.slice A2 n c2)); have BZ2 := Lib.hid (BX.other ((BOX.out _ HBC.out).2.1.later hb2) HNE.out (j := 7) (.slice A2 n c2)); have BS2 := Lib.hid (BM2.out.set 7 (.slice A2 n c2)); have HW2 := Lib.hid (Below.setCell ((BOX.out _ HBC.out).2.2.trans (hb2.mono (BOX.out _ HBC.out).2.2.size)) (p := ⟨gb, 7, none⟩) HGW.out (.slice A2 n c2)); have SZ2 := Lib.hid hb2.size; clear ho2 hb2)
      | (go_at_call 34; (with_reducible refine (CMY.out _ _ _).mono ?_); rintro e w3 ⟨rfl, hb3⟩; have BM3 : BX w3 gb 35 #[.string P, .int .i64 1, .int .i64 m, .int .i64 u, .int .i64 g, .int .i64 t, .string ⟨#[]⟩, .slice A2 n c2] := (by have h := BS2.out.later hb3; simpa using h); have BZ3 := BZ2.out.later hb3; have HW3 := Lib.hid (HW2.out.trans (hb3.mono HW2.out.size)); skip; have s0 : w3.cell? ⟨(w.heap.size + 1), 0, none⟩ = some (.string ⟨#[]⟩) := (BZ3).cell rfl; have s1 : w3.cell? ⟨(w.heap.size + 1), 1, none⟩ = some (.int .i64 0) := (BZ3).cell rfl; have s2 : w3.cell? ⟨(w.heap.size + 1), 2, none⟩ = some (.int .i64 0) := (BZ3).cell rfl; have s3 : w3.cell? ⟨(w.heap.size + 1), 3, none⟩ = some (.int .i64 0) := (BZ3).cell rfl; have s4 : w3.cell? ⟨(w.heap.size + 1), 4, none⟩ = some (.int .i64 0) := (BZ3).cell rfl; have s5 : w3.cell? ⟨(w.heap.size + 1), 5, none⟩ = some (.int .i64 0) := (BZ3).cell rfl; have s6 : w3.cell? ⟨(w.heap.size + 1), 6, none⟩ = some (.string ⟨#[]⟩) := (BZ3).cell rfl; have s7 : w3.cell? ⟨(w.heap.size + 1), 7, none⟩ = some (.slice none 0 0) := (BZ3).cell rfl; have v0 := (BZ3).free 0; have v1 := (BZ3).free 1; have v2 := (BZ3).free 2; have v3 := (BZ3).free 3; have v4 := (BZ3).free 4; have v5 := (BZ3).free 5; have v6 := (BZ3).free 6; have v7 := (BZ3).free 7; have BZ3' := Lib.hid BZ3; have HO3 := Lib.hid (OBn.later HO2.out hb3); clear BM3 BZ3 hb3))
    refine bodyPost_ret (v := .tuple #[.agg #[.string ⟨#[]⟩, .int .i64 0, .int .i64 0, .int .i64 0, .int .i64 0, .int .i64 0, .string ⟨#[]⟩, .slice none 0 0], .int .i64 E]) (by simp [results, Tryz.f9, go_sem, *]) rfl ⟨none, 0, 0, rfl, ?_, ?_, ?_, ?_⟩
    · exact RB.nil
    · exact Nat.le_refl _
    · exact Nat.zero_le _
    · exact ((((((((HW3.out).setCell (by simp) _).setCell (by simp) _).setCell (by simp) _).setCell (by simp) _).setCell (by simp) _).setCell (by simp) _).setCell (by simp) _).setCell (by simp) _
theorem mfrom_2 (p nm l : ByteArray) (m u g t z k : Int) (B : Option Addr) (nr cr : Nat) (rs : List Rc.Rec) (A : Option Addr) (n c : Nat) (xs : List Int) (w : World) (hr : RL w w.heap.size B nr rs) (hnr : nr ≤ 100000) (ha : RB w w.heap.size A n xs) (hn : n ≤ 100000) (hp : p.size ≤ 1000) (hnm : nm.size ≤ 1000) (hl : l.size ≤ 1000)
    (hs : ∀ r ∈ rs, r.2.size ≤ 100000) (hk : Mb.kin k = 2) (hE : Mb.may (Mb.fP rs p nm) (Mb.told8 rs Mb.kLink l) 2 m u g t 0 = 0) :
    Calls Tryz.prog 9 #[.agg #[.string p, .string nm, .int .i64 m, .int .i64 u, .int .i64 g, .int .i64 t, .int .i64 z, .int .u8 k, .string l], .slice B nr cr, .slice A n c] w fun e w' => ∃ A' n' c', e = .returned (.tuple #[.agg #[.string (Mb.fP rs p nm), .int .i64 2, .int .i64 m, .int .i64 u, .int .i64 g, .int .i64 t, .string (Mb.told8 rs Mb.kLink l), .slice A' n' c'], .int .i64 0]) ∧ RB w' w'.heap.size A' n' [] ∧ n' ≤ c' ∧ c' ≤ maxLen ∧ Below w.heap.size w w' := by
  have hxl := ha.1
  have cpa := fun W => hpath_any p nm l m u g t z k W (by omega) (by omega)
  have ctp := fun W (hW : Below w.heap.size w W) d => mtold_any B nr cr rs Mb.kPath d W ((hr.below hW).more hW.size) hnr
  have ctl := fun W (hW : Below w.heap.size w W) d => mtold_any B nr cr rs Mb.kLink d W ((hr.below hW).more hW.size) hnr
  have ckk := fun W => mkind_any k W
  rw [hk] at ckk
  have ccl := fun W (hb : Below w.heap.size w W) => bclone_any A n c xs W ((ha.below hb).more hb.size) (by omega)
  have ejn : (if p.size = 0 then nm else p ++ ⟨#[47]⟩ ++ nm) = Mb.join p nm := rfl
  rw [ejn] at cpa
  clear ejn
  have hjs : (Mb.join p nm).size ≤ 2001 := by
    unfold Mb.join
    split
    · omega
    · rw [ByteArray.size_append, ByteArray.size_append]
      have : (⟨#[47]⟩ : ByteArray).size = 1 := rfl
      omega
  have hps : (Mb.fP rs p nm).size ≤ 100000 := Mb.told_size (fun r hr => by have := hs r hr; omega) (by omega)
  have hls : (Mb.told8 rs Mb.kLink l).size ≤ 100000 := Mb.told_size hs (by omega)
  have eP : Mb.told8 rs Mb.kPath (Mb.join p nm) = Mb.fP rs p nm := rfl
  have ctp2 := fun W (hW : Below w.heap.size w W) => ctp W hW (Mb.join p nm)
  have ctl2 := fun W (hW : Below w.heap.size w W) => ctl W hW l
  rw [eP] at ctp2
  unfold Mb.kPath at ctp2
  have ek : Mb.kLink = ⟨#[108, 105, 110, 107, 112, 97, 116, 104]⟩ := rfl
  generalize Mb.fP rs p nm = P at *
  generalize Mb.join p nm = J at *
  generalize Mb.told8 rs Mb.kLink l = LL at *
  rw [ek] at ctl2
  have CPA := Lib.hid cpa; have CTP := Lib.hid ctp2; have CTL := Lib.hid (fun W (hW : Below w.heap.size w W) (_ : Unit) => ctl2 W hW); have CKK := Lib.hid ckk; have CCL := Lib.hid ccl; have HXL := Lib.hid hxl
  have cmy := fun (A' : Option Addr) (c' : Nat) W => mmay_any P LL 2 m u g t A' 0 c' W (by omega) (by omega) (by omega)
  rw [hE] at cmy
  have CMY := Lib.hid cmy
  clear cmy hE
  clear cpa ctp ctl ctp2 ctl2 ckk ccl hr ha ek eP hjs hxl hk
  go_enter Tryz.func9, Tryz.ntmps9
  go_upto_region 1 with (fail)
  obtain ⟨W0, hW0⟩ : ∃ W0, W0 = ((w.alloc (.cells #[.string p, .string nm, .int .i64 m, .int .i64 u, .int .i64 g, .int .i64 t, .int .i64 z, .int .u8 k, .string l] 40)).alloc (.cells #[.string ⟨#[]⟩, .int .i64 0, .int .i64 0, .int .i64 0, .int .i64 0, .int .i64 0, .string ⟨#[]⟩, .slice none 0 0] 35)) := ⟨_, rfl⟩
  rw [← hW0]
  have SZ0 := Lib.hid (show W0.heap.size = w.heap.size + 1 + 1 by rw [hW0]; simp)
  have BOX := Lib.hid (show ∀ W, Below W0.heap.size W0 W → BX W w.heap.size 40 #[.string p, .string nm, .int .i64 m, .int .i64 u, .int .i64 g, .int .i64 t, .int .i64 z, .int .u8 k, .string l] ∧ BX W (w.heap.size + 1) 35 #[.string ⟨#[]⟩, .int .i64 0, .int .i64 0, .int .i64 0, .int .i64 0, .int .i64 0, .string ⟨#[]⟩, .slice none 0 0] ∧ Below w.heap.size w W by
    intro W hb
    have hsz := SZ0.out
    rw [hsz] at hb
    rw [hW0] at hb
    refine ⟨((BX.new w _ _).alloc _).below hb (by omega), ?_, (((Below.refl _ w).alloc (Nat.le_refl _) _).alloc (by simp) _).trans (hb.mono (by omega))⟩
    have h := (BX.new (w.alloc (.cells #[.string p, .string nm, .int .i64 m, .int .i64 u, .int .i64 g, .int .i64 t, .int .i64 z, .int .u8 k, .string l] 40)) 35 #[.string ⟨#[]⟩, .int .i64 0, .int .i64 0, .int .i64 0, .int .i64 0, .int .i64 0, .string ⟨#[]⟩, .slice none 0 0]).below (B := w.heap.size + 1 + 1) (w' := W) hb (by simp)
    simpa using h)
  clear hW0
  go_cut [8] (fun v wx => ∃ gb, v = .pointer (some ⟨gb, 0, none⟩) ∧ Hid (W0.heap.size ≤ gb) ∧ Hid (Below W0.heap.size W0 wx) ∧ Hid (BX wx gb 35 #[.string P, .int .i64 2, .int .i64 m, .int .i64 u, .int .i64 g, .int .i64 t, .string ⟨#[]⟩, .slice none 0 0]))
  case first =>
    have hacc : Below W0.heap.size W0 W0.drew := below_drewN (Below.refl _ _) 1
    have alls : ∀ W, Below W0.heap.size W0 W → W.cell? ⟨w.heap.size, 0, none⟩ = some (.string p) ∧ W.cell? ⟨w.heap.size, 1, none⟩ = some (.string nm) ∧ W.cell? ⟨w.heap.size, 2, none⟩ = some (.int .i64 m) ∧ W.cell? ⟨w.heap.size, 3, none⟩ = some (.int .i64 u) ∧ W.cell? ⟨w.heap.size, 4, none⟩ = some (.int .i64 g) ∧ W.cell? ⟨w.heap.size, 5, none⟩ = some (.int .i64 t) ∧ W.cell? ⟨w.heap.size, 6, none⟩ = some (.int .i64 z) ∧ W.cell? ⟨w.heap.size, 7, none⟩ = some (.int .u8 k) ∧ W.cell? ⟨w.heap.size, 8, none⟩ = some (.string l) := fun W hW => by
      obtain ⟨b, _, _⟩ := BOX.out W hW
      exact ⟨b.cell rfl, b.cell rfl, b.cell rfl, b.cell rfl, b.cell rfl, b.cell rfl, b.cell rfl, b.cell rfl, b.cell rfl⟩
    have ALLS := Lib.hid alls
    clear alls
    obtain ⟨y0, y1, y2, y3, y4, y5, y6, y7, y8⟩ := ALLS.out _ hacc
    obtain ⟨x0, x1, x2, x3, x4, x5, x6, x7, x8⟩ := ALLS.out _ (Below.refl W0.heap.size W0)
    have hne0 : W0.heap.size ≠ w.heap.size := by rw [SZ0.out]; omega
    go_region_held3 (fun w' => w'.cell? ⟨w.heap.size, 0, none⟩ = some (.string p) ∧ w'.cell? ⟨w.heap.size, 1, none⟩ = some (.string nm) ∧ w'.cell? ⟨w.heap.size, 2, none⟩ = some (.int .i64 m) ∧ w'.cell? ⟨w.heap.size, 3, none⟩ = some (.int .i64 u) ∧ w'.cell? ⟨w.heap.size, 4, none⟩ = some (.int .i64 g) ∧ w'.cell? ⟨w.heap.size, 5, none⟩ = some (.int .i64 t) ∧ w'.cell? ⟨w.heap.size, 6, none⟩ = some (.int .i64 z) ∧ w'.cell? ⟨w.heap.size, 7, none⟩ = some (.int .u8 k) ∧ w'.cell? ⟨w.heap.size, 8, none⟩ = some (.string l)) (first | go_keep | (exact ALLS.out _ hacc) | (exact ALLS.out _ (hacc.alloc hacc.size _))) (first
      | (go_at_call 32; (with_reducible refine (CPA.out _).mono ?_); rintro e w1 ⟨rfl, hb1⟩; (first | (replace hacc := bthen hacc hb1; have hne1 : w1.heap.size ≠ w.heap.size := (by have h1 := hacc.size; have h2 := SZ0.out; omega)) | (have bz : BX w1 W0.heap.size 35 #[.string ⟨#[]⟩, .int .i64 0, .int .i64 0, .int .i64 0, .int .i64 0, .int .i64 0, .string ⟨#[]⟩, .slice none 0 0] := (BX.drew (BX.new _ _ _)).later hb1; replace hacc := ((mb_new W0 (.cells #[.string ⟨#[]⟩, .int .i64 0, .int .i64 0, .int .i64 0, .int .i64 0, .int .i64 0, .string ⟨#[]⟩, .slice none 0 0] 35)).drew).trans (Below.mono hb1 (by simp <;> omega)); have z0 : w1.cell? ⟨W0.heap.size, 0, none⟩ = some (.string ⟨#[]⟩) := bz.cell rfl; have f0 := bz.free 0; have z1 : w1.cell? ⟨W0.heap.size, 1, none⟩ = some (.int .i64 0) := bz.cell rfl; have f1 := bz.free 1; have z2 : w1.cell? ⟨W0.heap.size, 2, none⟩ = some (.int .i64 0) := bz.cell rfl; have f2 := bz.free 2; have z3 : w1.cell? ⟨W0.heap.size, 3, none⟩ = some (.int .i64 0) := bz.cell rfl; have f3 := bz.free 3; have z4 : w1.cell? ⟨W0.heap.size, 4, none⟩ = some (.int .i64 0) := bz.cell rfl; have f4 := bz.free 4; have z5 : w1.cell? ⟨W0.heap.size, 5, none⟩ = some (.int .i64 0) := bz.cell rfl; have f5 := bz.free 5; have z6 : w1.cell? ⟨W0.heap.size, 6, none⟩ = some (.string ⟨#[]⟩) := bz.cell rfl; have f6 := bz.free 6; have z7 : w1.cell? ⟨W0.heap.size, 7, none⟩ = some (.slice none 0 0) := bz.cell rfl; have f7 := bz.free 7)))
      | (go_at_call 31; (with_reducible refine (CTP.out _ (by first | exact (BOX.out _ hacc).2.2 | exact (BOX.out _ (hacc.alloc hacc.size _)).2.2 | exact (BOX.out _ (mb_new W0 _).drew).2.2)).mono ?_); rintro e w2 ⟨rfl, rfl⟩)
      | (go_at_call 29; (with_reducible refine (CKK.out _).mono ?_); rintro e w3 ⟨rfl, rfl⟩))
    all_goals
      go_wp2
      go_meet
      first
        | exact ⟨_, rfl, hacc.size, hacc.alloc hacc.size _, BX.new _ _ _⟩
        | exact ⟨_, rfl, Nat.le_refl _, ((((((((hacc).setCell (Nat.le_refl _) _).setCell (Nat.le_refl _) _).setCell (Nat.le_refl _) _).setCell (Nat.le_refl _) _).setCell (Nat.le_refl _) _).setCell (Nat.le_refl _) _).setCell (Nat.le_refl _) _).setCell (Nat.le_refl _) _, (by have h := (((((((bz.set 0 (.string P)).set 1 (.int .i64 2)).set 2 (.int .i64 m)).set 3 (.int .i64 u)).set 4 (.int .i64 g)).set 5 (.int .i64 t)).set 6 (.string ⟨#[]⟩)).set 7 (.slice none 0 0); show BX _ _ _ _; simpa using h)⟩
  case rest =>
    obtain ⟨gb, rfl, HG, HBC, HBM⟩ := hcut
    have HNE := Lib.hid (show w.heap.size + 1 ≠ gb by have h1 := HG.out; have h2 := SZ0.out; intro h; change W0.heap.size ≤ gb at h1; omega)
    have HGW := Lib.hid (show w.heap.size ≤ gb by have h1 := HG.out; have h2 := SZ0.out; change W0.heap.size ≤ gb at h1; omega)
    have HGL := Lib.hid (show gb < wc.heap.size from HBM.out.lt)
    have HZL := Lib.hid (show w.heap.size + 1 < wc.heap.size from (BOX.out _ HBC.out).2.1.lt)
    have g0 : wc.cell? ⟨gb, 0, none⟩ = some (.string P) := (HBM.out).cell rfl; have g1 : wc.cell? ⟨gb, 1, none⟩ = some (.int .i64 2) := (HBM.out).cell rfl; have g2 : wc.cell? ⟨gb, 2, none⟩ = some (.int .i64 m) := (HBM.out).cell rfl; have g3 : wc.cell? ⟨gb, 3, none⟩ = some (.int .i64 u) := (HBM.out).cell rfl; have g4 : wc.cell? ⟨gb, 4, none⟩ = some (.int .i64 g) := (HBM.out).cell rfl; have g5 : wc.cell? ⟨gb, 5, none⟩ = some (.int .i64 t) := (HBM.out).cell rfl; have g6 : wc.cell? ⟨gb, 6, none⟩ = some (.string ⟨#[]⟩) := (HBM.out).cell rfl; have g7 : wc.cell? ⟨gb, 7, none⟩ = some (.slice none 0 0) := (HBM.out).cell rfl
    have hl8 : wc.cell? ⟨w.heap.size, 8, none⟩ = some (.string l) := (BOX.out _ HBC.out).1.cell rfl
    have fg := HBM.out.free 6
    have BZ2 := Lib.hid (BX.other (BOX.out _ HBC.out).2.1 HNE.out (j := 6) (.string LL))
    have BS2 := Lib.hid (HBM.out.set 6 (.string LL))
    have HW2 := Lib.hid (Below.setCell (BOX.out _ HBC.out).2.2 (p := ⟨gb, 6, none⟩) HGW.out (.string LL))
    go_wp2_with (first
      | (go_at_call 31; (with_reducible refine (CTL.out _ (BOX.out _ HBC.out).2.2 ()).mono ?_); rintro e w2 ⟨rfl, rfl⟩)
      | (go_at_call 34; (with_reducible refine (CMY.out _ _ _).mono ?_); rintro e w3 ⟨rfl, hb3⟩; have BM3 : BX w3 gb 35 #[.string P, .int .i64 2, .int .i64 m, .int .i64 u, .int .i64 g, .int .i64 t, .string LL, .slice none 0 0] := (by have h := BS2.out.later hb3; simpa using h); have BZ3 := BZ2.out.later hb3; have HW3 := Lib.hid (HW2.out.trans (hb3.mono HW2.out.size)); have r0 : w3.cell? ⟨gb, 0, none⟩ = some (.string P) := (BM3).cell rfl; have r1 : w3.cell? ⟨gb, 1, none⟩ = some (.int .i64 2) := (BM3).cell rfl; have r2 : w3.cell? ⟨gb, 2, none⟩ = some (.int .i64 m) := (BM3).cell rfl; have r3 : w3.cell? ⟨gb, 3, none⟩ = some (.int .i64 u) := (BM3).cell rfl; have r4 : w3.cell? ⟨gb, 4, none⟩ = some (.int .i64 g) := (BM3).cell rfl; have r5 : w3.cell? ⟨gb, 5, none⟩ = some (.int .i64 t) := (BM3).cell rfl; have r6 : w3.cell? ⟨gb, 6, none⟩ = some (.string LL) := (BM3).cell rfl; have r7 : w3.cell? ⟨gb, 7, none⟩ = some (.slice none 0 0) := (BM3).cell rfl; have s0 : w3.cell? ⟨(w.heap.size + 1), 0, none⟩ = some (.string ⟨#[]⟩) := (BZ3).cell rfl; have s1 : w3.cell? ⟨(w.heap.size + 1), 1, none⟩ = some (.int .i64 0) := (BZ3).cell rfl; have s2 : w3.cell? ⟨(w.heap.size + 1), 2, none⟩ = some (.int .i64 0) := (BZ3).cell rfl; have s3 : w3.cell? ⟨(w.heap.size + 1), 3, none⟩ = some (.int .i64 0) := (BZ3).cell rfl; have s4 : w3.cell? ⟨(w.heap.size + 1), 4, none⟩ = some (.int .i64 0) := (BZ3).cell rfl; have s5 : w3.cell? ⟨(w.heap.size + 1), 5, none⟩ = some (.int .i64 0) := (BZ3).cell rfl; have s6 : w3.cell? ⟨(w.heap.size + 1), 6, none⟩ = some (.string ⟨#[]⟩) := (BZ3).cell rfl; have s7 : w3.cell? ⟨(w.heap.size + 1), 7, none⟩ = some (.slice none 0 0) := (BZ3).cell rfl; have v0 := (BZ3).free 0; have v1 := (BZ3).free 1; have v2 := (BZ3).free 2; have v3 := (BZ3).free 3; have v4 := (BZ3).free 4; have v5 := (BZ3).free 5; have v6 := (BZ3).free 6; have v7 := (BZ3).free 7; have BZ3' := Lib.hid BZ3; clear BM3 BZ3 hb3))
    refine bodyPost_ret (v := .tuple #[.agg #[.string P, .int .i64 2, .int .i64 m, .int .i64 u, .int .i64 g, .int .i64 t, .string LL, .slice none 0 0], .int .i64 0]) (by simp [results, Tryz.f9, go_sem, *]) rfl ⟨none, 0, 0, rfl, ?_, ?_, ?_, ?_⟩
    · exact RB.nil
    · exact Nat.le_refl _
    · exact Nat.zero_le _
    · exact ((((((((HW3.out).setCell (by simp) _).setCell (by simp) _).setCell (by simp) _).setCell (by simp) _).setCell (by simp) _).setCell (by simp) _).setCell (by simp) _).setCell (by simp) _
theorem mfrom_2b (p nm l : ByteArray) (m u g t z k : Int) (B : Option Addr) (nr cr : Nat) (rs : List Rc.Rec) (A : Option Addr) (n c : Nat) (xs : List Int) (w : World) (hr : RL w w.heap.size B nr rs) (hnr : nr ≤ 100000) (ha : RB w w.heap.size A n xs) (hn : n ≤ 100000) (hp : p.size ≤ 1000) (hnm : nm.size ≤ 1000) (hl : l.size ≤ 1000)
    (hs : ∀ r ∈ rs, r.2.size ≤ 100000) (hk : Mb.kin k = 2) (hE : ¬ Mb.may (Mb.fP rs p nm) (Mb.told8 rs Mb.kLink l) 2 m u g t 0 = 0) :
    Calls Tryz.prog 9 #[.agg #[.string p, .string nm, .int .i64 m, .int .i64 u, .int .i64 g, .int .i64 t, .int .i64 z, .int .u8 k, .string l], .slice B nr cr, .slice A n c] w fun e w' => ∃ A' n' c', e = .returned (.tuple #[.agg #[.string ⟨#[]⟩, .int .i64 0, .int .i64 0, .int .i64 0, .int .i64 0, .int .i64 0, .string ⟨#[]⟩, .slice A' n' c'], .int .i64 (Mb.may (Mb.fP rs p nm) (Mb.told8 rs Mb.kLink l) 2 m u g t 0)]) ∧ RB w' w'.heap.size A' n' [] ∧ n' ≤ c' ∧ c' ≤ maxLen ∧ Below w.heap.size w w' := by
  have hxl := ha.1
  have cpa := fun W => hpath_any p nm l m u g t z k W (by omega) (by omega)
  have ctp := fun W (hW : Below w.heap.size w W) d => mtold_any B nr cr rs Mb.kPath d W ((hr.below hW).more hW.size) hnr
  have ctl := fun W (hW : Below w.heap.size w W) d => mtold_any B nr cr rs Mb.kLink d W ((hr.below hW).more hW.size) hnr
  have ckk := fun W => mkind_any k W
  rw [hk] at ckk
  have ccl := fun W (hb : Below w.heap.size w W) => bclone_any A n c xs W ((ha.below hb).more hb.size) (by omega)
  have ejn : (if p.size = 0 then nm else p ++ ⟨#[47]⟩ ++ nm) = Mb.join p nm := rfl
  rw [ejn] at cpa
  clear ejn
  have hjs : (Mb.join p nm).size ≤ 2001 := by
    unfold Mb.join
    split
    · omega
    · rw [ByteArray.size_append, ByteArray.size_append]
      have : (⟨#[47]⟩ : ByteArray).size = 1 := rfl
      omega
  have hps : (Mb.fP rs p nm).size ≤ 100000 := Mb.told_size (fun r hr => by have := hs r hr; omega) (by omega)
  have hls : (Mb.told8 rs Mb.kLink l).size ≤ 100000 := Mb.told_size hs (by omega)
  have eP : Mb.told8 rs Mb.kPath (Mb.join p nm) = Mb.fP rs p nm := rfl
  have ctp2 := fun W (hW : Below w.heap.size w W) => ctp W hW (Mb.join p nm)
  have ctl2 := fun W (hW : Below w.heap.size w W) => ctl W hW l
  rw [eP] at ctp2
  unfold Mb.kPath at ctp2
  have ek : Mb.kLink = ⟨#[108, 105, 110, 107, 112, 97, 116, 104]⟩ := rfl
  generalize Mb.fP rs p nm = P at *
  generalize Mb.join p nm = J at *
  generalize Mb.told8 rs Mb.kLink l = LL at *
  rw [ek] at ctl2
  have CPA := Lib.hid cpa; have CTP := Lib.hid ctp2; have CTL := Lib.hid (fun W (hW : Below w.heap.size w W) (_ : Unit) => ctl2 W hW); have CKK := Lib.hid ckk; have CCL := Lib.hid ccl; have HXL := Lib.hid hxl
  have cmy := fun (A' : Option Addr) (c' : Nat) W => mmay_any P LL 2 m u g t A' 0 c' W (by omega) (by omega) (by omega)
  generalize Mb.may P LL 2 m u g t 0 = E at *
  have hE1 : (E == 0) = false := by simp [hE]
  have hE2 : (E != 0) = true := by simp [hE]
  have CMY := Lib.hid cmy
  clear cmy hE
  clear cpa ctp ctl ctp2 ctl2 ckk ccl hr ha ek eP hjs hxl hk
  go_enter Tryz.func9, Tryz.ntmps9
  go_upto_region 1 with (fail)
  obtain ⟨W0, hW0⟩ : ∃ W0, W0 = ((w.alloc (.cells #[.string p, .string nm, .int .i64 m, .int .i64 u, .int .i64 g, .int .i64 t, .int .i64 z, .int .u8 k, .string l] 40)).alloc (.cells #[.string ⟨#[]⟩, .int .i64 0, .int .i64 0, .int .i64 0, .int .i64 0, .int .i64 0, .string ⟨#[]⟩, .slice none 0 0] 35)) := ⟨_, rfl⟩
  rw [← hW0]
  have SZ0 := Lib.hid (show W0.heap.size = w.heap.size + 1 + 1 by rw [hW0]; simp)
  have BOX := Lib.hid (show ∀ W, Below W0.heap.size W0 W → BX W w.heap.size 40 #[.string p, .string nm, .int .i64 m, .int .i64 u, .int .i64 g, .int .i64 t, .int .i64 z, .int .u8 k, .string l] ∧ BX W (w.heap.size + 1) 35 #[.string ⟨#[]⟩, .int .i64 0, .int .i64 0, .int .i64 0, .int .i64 0, .int .i64 0, .string ⟨#[]⟩, .slice none 0 0] ∧ Below w.heap.size w W by
    intro W hb
    have hsz := SZ0.out
    rw [hsz] at hb
    rw [hW0] at hb
    refine ⟨((BX.new w _ _).alloc _).below hb (by omega), ?_, (((Below.refl _ w).alloc (Nat.le_refl _) _).alloc (by simp) _).trans (hb.mono (by omega))⟩
    have h := (BX.new (w.alloc (.cells #[.string p, .string nm, .int .i64 m, .int .i64 u, .int .i64 g, .int .i64 t, .int .i64 z, .int .u8 k, .string l] 40)) 35 #[.string ⟨#[]⟩, .int .i64 0, .int .i64 0, .int .i64 0, .int .i64 0, .int .i64 0, .string ⟨#[]⟩, .slice none 0 0]).below (B := w.heap.size + 1 + 1) (w' := W) hb (by simp)
    simpa using h)
  clear hW0
  go_cut [8] (fun v wx => ∃ gb, v = .pointer (some ⟨gb, 0, none⟩) ∧ Hid (W0.heap.size ≤ gb) ∧ Hid (Below W0.heap.size W0 wx) ∧ Hid (BX wx gb 35 #[.string P, .int .i64 2, .int .i64 m, .int .i64 u, .int .i64 g, .int .i64 t, .string ⟨#[]⟩, .slice none 0 0]))
  case first =>
    have hacc : Below W0.heap.size W0 W0.drew := below_drewN (Below.refl _ _) 1
    have alls : ∀ W, Below W0.heap.size W0 W → W.cell? ⟨w.heap.size, 0, none⟩ = some (.string p) ∧ W.cell? ⟨w.heap.size, 1, none⟩ = some (.string nm) ∧ W.cell? ⟨w.heap.size, 2, none⟩ = some (.int .i64 m) ∧ W.cell? ⟨w.heap.size, 3, none⟩ = some (.int .i64 u) ∧ W.cell? ⟨w.heap.size, 4, none⟩ = some (.int .i64 g) ∧ W.cell? ⟨w.heap.size, 5, none⟩ = some (.int .i64 t) ∧ W.cell? ⟨w.heap.size, 6, none⟩ = some (.int .i64 z) ∧ W.cell? ⟨w.heap.size, 7, none⟩ = some (.int .u8 k) ∧ W.cell? ⟨w.heap.size, 8, none⟩ = some (.string l) := fun W hW => by
      obtain ⟨b, _, _⟩ := BOX.out W hW
      exact ⟨b.cell rfl, b.cell rfl, b.cell rfl, b.cell rfl, b.cell rfl, b.cell rfl, b.cell rfl, b.cell rfl, b.cell rfl⟩
    have ALLS := Lib.hid alls
    clear alls
    obtain ⟨y0, y1, y2, y3, y4, y5, y6, y7, y8⟩ := ALLS.out _ hacc
    obtain ⟨x0, x1, x2, x3, x4, x5, x6, x7, x8⟩ := ALLS.out _ (Below.refl W0.heap.size W0)
    have hne0 : W0.heap.size ≠ w.heap.size := by rw [SZ0.out]; omega
    go_region_held3 (fun w' => w'.cell? ⟨w.heap.size, 0, none⟩ = some (.string p) ∧ w'.cell? ⟨w.heap.size, 1, none⟩ = some (.string nm) ∧ w'.cell? ⟨w.heap.size, 2, none⟩ = some (.int .i64 m) ∧ w'.cell? ⟨w.heap.size, 3, none⟩ = some (.int .i64 u) ∧ w'.cell? ⟨w.heap.size, 4, none⟩ = some (.int .i64 g) ∧ w'.cell? ⟨w.heap.size, 5, none⟩ = some (.int .i64 t) ∧ w'.cell? ⟨w.heap.size, 6, none⟩ = some (.int .i64 z) ∧ w'.cell? ⟨w.heap.size, 7, none⟩ = some (.int .u8 k) ∧ w'.cell? ⟨w.heap.size, 8, none⟩ = some (.string l)) (first | go_keep | (exact ALLS.out _ hacc) | (exact ALLS.out _ (hacc.alloc hacc.size _))) (first
      | (go_at_call 32; (with_reducible refine (CPA.out _).mono ?_); rintro e w1 ⟨rfl, hb1⟩; (first | (replace hacc := bthen hacc hb1; have hne1 : w1.heap.size ≠ w.heap.size := (by have h1 := hacc.size; have h2 := SZ0.out; omega)) | (have bz : BX w1 W0.heap.size 35 #[.string ⟨#[]⟩, .int .i64 0, .int .i64 0, .int .i64 0, .int .i64 0, .int .i64 0, .string ⟨#[]⟩, .slice none 0 0] := (BX.drew (BX.new _ _ _)).later hb1; replace hacc := ((mb_new W0 (.cells #[.string ⟨#[]⟩, .int .i64 0, .int .i64 0, .int .i64 0, .int .i64 0, .int .i64 0, .string ⟨#[]⟩, .slice none 0 0] 35)).drew).trans (Below.mono hb1 (by simp <;> omega)); have z0 : w1.cell? ⟨W0.heap.size, 0, none⟩ = some (.string ⟨#[]⟩) := bz.cell rfl; have f0 := bz.free 0; have z1 : w1.cell? ⟨W0.heap.size, 1, none⟩ = some (.int .i64 0) := bz.cell rfl; have f1 := bz.free 1; have z2 : w1.cell? ⟨W0.heap.size, 2, none⟩ = some (.int .i64 0) := bz.cell rfl; have f2 := bz.free 2; have z3 : w1.cell? ⟨W0.heap.size, 3, none⟩ = some (.int .i64 0) := bz.cell rfl; have f3 := bz.free 3; have z4 : w1.cell? ⟨W0.heap.size, 4, none⟩ = some (.int .i64 0) := bz.cell rfl; have f4 := bz.free 4; have z5 : w1.cell? ⟨W0.heap.size, 5, none⟩ = some (.int .i64 0) := bz.cell rfl; have f5 := bz.free 5; have z6 : w1.cell? ⟨W0.heap.size, 6, none⟩ = some (.string ⟨#[]⟩) := bz.cell rfl; have f6 := bz.free 6; have z7 : w1.cell? ⟨W0.heap.size, 7, none⟩ = some (.slice none 0 0) := bz.cell rfl; have f7 := bz.free 7)))
      | (go_at_call 31; (with_reducible refine (CTP.out _ (by first | exact (BOX.out _ hacc).2.2 | exact (BOX.out _ (hacc.alloc hacc.size _)).2.2 | exact (BOX.out _ (mb_new W0 _).drew).2.2)).mono ?_); rintro e w2 ⟨rfl, rfl⟩)
      | (go_at_call 29; (with_reducible refine (CKK.out _).mono ?_); rintro e w3 ⟨rfl, rfl⟩))
    all_goals
      go_wp2
      go_meet
      first
        | exact ⟨_, rfl, hacc.size, hacc.alloc hacc.size _, BX.new _ _ _⟩
        | exact ⟨_, rfl, Nat.le_refl _, ((((((((hacc).setCell (Nat.le_refl _) _).setCell (Nat.le_refl _) _).setCell (Nat.le_refl _) _).setCell (Nat.le_refl _) _).setCell (Nat.le_refl _) _).setCell (Nat.le_refl _) _).setCell (Nat.le_refl _) _).setCell (Nat.le_refl _) _, (by have h := (((((((bz.set 0 (.string P)).set 1 (.int .i64 2)).set 2 (.int .i64 m)).set 3 (.int .i64 u)).set 4 (.int .i64 g)).set 5 (.int .i64 t)).set 6 (.string ⟨#[]⟩)).set 7 (.slice none 0 0); show BX _ _ _ _; simpa using h)⟩
  case rest =>
    obtain ⟨gb, rfl, HG, HBC, HBM⟩ := hcut
    have HNE := Lib.hid (show w.heap.size + 1 ≠ gb by have h1 := HG.out; have h2 := SZ0.out; intro h; change W0.heap.size ≤ gb at h1; omega)
    have HGW := Lib.hid (show w.heap.size ≤ gb by have h1 := HG.out; have h2 := SZ0.out; change W0.heap.size ≤ gb at h1; omega)
    have HGL := Lib.hid (show gb < wc.heap.size from HBM.out.lt)
    have HZL := Lib.hid (show w.heap.size + 1 < wc.heap.size from (BOX.out _ HBC.out).2.1.lt)
    have g0 : wc.cell? ⟨gb, 0, none⟩ = some (.string P) := (HBM.out).cell rfl; have g1 : wc.cell? ⟨gb, 1, none⟩ = some (.int .i64 2) := (HBM.out).cell rfl; have g2 : wc.cell? ⟨gb, 2, none⟩ = some (.int .i64 m) := (HBM.out).cell rfl; have g3 : wc.cell? ⟨gb, 3, none⟩ = some (.int .i64 u) := (HBM.out).cell rfl; have g4 : wc.cell? ⟨gb, 4, none⟩ = some (.int .i64 g) := (HBM.out).cell rfl; have g5 : wc.cell? ⟨gb, 5, none⟩ = some (.int .i64 t) := (HBM.out).cell rfl; have g6 : wc.cell? ⟨gb, 6, none⟩ = some (.string ⟨#[]⟩) := (HBM.out).cell rfl; have g7 : wc.cell? ⟨gb, 7, none⟩ = some (.slice none 0 0) := (HBM.out).cell rfl
    have hl8 : wc.cell? ⟨w.heap.size, 8, none⟩ = some (.string l) := (BOX.out _ HBC.out).1.cell rfl
    have fg := HBM.out.free 6
    have BZ2 := Lib.hid (BX.other (BOX.out _ HBC.out).2.1 HNE.out (j := 6) (.string LL))
    have BS2 := Lib.hid (HBM.out.set 6 (.string LL))
    have HW2 := Lib.hid (Below.setCell (BOX.out _ HBC.out).2.2 (p := ⟨gb, 6, none⟩) HGW.out (.string LL))
    go_wp2_with (first
      | (go_at_call 31; (with_reducible refine (CTL.out _ (BOX.out _ HBC.out).2.2 ()).mono ?_); rintro e w2 ⟨rfl, rfl⟩)
      | (go_at_call 34; (with_reducible refine (CMY.out _ _ _).mono ?_); rintro e w3 ⟨rfl, hb3⟩; have BM3 : BX w3 gb 35 #[.string P, .int .i64 2, .int .i64 m, .int .i64 u, .int .i64 g, .int .i64 t, .string LL, .slice none 0 0] := (by have h := BS2.out.later hb3; simpa using h); have BZ3 := BZ2.out.later hb3; have HW3 := Lib.hid (HW2.out.trans (hb3.mono HW2.out.size)); skip; have s0 : w3.cell? ⟨(w.heap.size + 1), 0, none⟩ = some (.string ⟨#[]⟩) := (BZ3).cell rfl; have s1 : w3.cell? ⟨(w.heap.size + 1), 1, none⟩ = some (.int .i64 0) := (BZ3).cell rfl; have s2 : w3.cell? ⟨(w.heap.size + 1), 2, none⟩ = some (.int .i64 0) := (BZ3).cell rfl; have s3 : w3.cell? ⟨(w.heap.size + 1), 3, none⟩ = some (.int .i64 0) := (BZ3).cell rfl; have s4 : w3.cell? ⟨(w.heap.size + 1), 4, none⟩ = some (.int .i64 0) := (BZ3).cell rfl; have s5 : w3.cell? ⟨(w.heap.size + 1), 5, none⟩ = some (.int .i64 0) := (BZ3).cell rfl; have s6 : w3.cell? ⟨(w.heap.size + 1), 6, none⟩ = some (.string ⟨#[]⟩) := (BZ3).cell rfl; have s7 : w3.cell? ⟨(w.heap.size + 1), 7, none⟩ = some (.slice none 0 0) := (BZ3).cell rfl; have v0 := (BZ3).free 0; have v1 := (BZ3).free 1; have v2 := (BZ3).free 2; have v3 := (BZ3).free 3; have v4 := (BZ3).free 4; have v5 := (BZ3).free 5; have v6 := (BZ3).free 6; have v7 := (BZ3).free 7; have BZ3' := Lib.hid BZ3; clear BM3 BZ3 hb3))
    refine bodyPost_ret (v := .tuple #[.agg #[.string ⟨#[]⟩, .int .i64 0, .int .i64 0, .int .i64 0, .int .i64 0, .int .i64 0, .string ⟨#[]⟩, .slice none 0 0], .int .i64 E]) (by simp [results, Tryz.f9, go_sem, *]) rfl ⟨none, 0, 0, rfl, ?_, ?_, ?_, ?_⟩
    · exact RB.nil
    · exact Nat.le_refl _
    · exact Nat.zero_le _
    · exact ((((((((HW3.out).setCell (by simp) _).setCell (by simp) _).setCell (by simp) _).setCell (by simp) _).setCell (by simp) _).setCell (by simp) _).setCell (by simp) _).setCell (by simp) _
theorem mfrom_3 (p nm l : ByteArray) (m u g t z k : Int) (B : Option Addr) (nr cr : Nat) (rs : List Rc.Rec) (A : Option Addr) (n c : Nat) (xs : List Int) (w : World) (hr : RL w w.heap.size B nr rs) (hnr : nr ≤ 100000) (ha : RB w w.heap.size A n xs) (hn : n ≤ 100000) (hp : p.size ≤ 1000) (hnm : nm.size ≤ 1000) (hl : l.size ≤ 1000)
    (hs : ∀ r ∈ rs, r.2.size ≤ 100000) (hk : Mb.kin k = 3) (hE : Mb.may (Mb.fP rs p nm) (Mb.told8 rs Mb.kLink l) 3 m u g t 0 = 0) :
    Calls Tryz.prog 9 #[.agg #[.string p, .string nm, .int .i64 m, .int .i64 u, .int .i64 g, .int .i64 t, .int .i64 z, .int .u8 k, .string l], .slice B nr cr, .slice A n c] w fun e w' => ∃ A' n' c', e = .returned (.tuple #[.agg #[.string (Mb.fP rs p nm), .int .i64 3, .int .i64 m, .int .i64 u, .int .i64 g, .int .i64 t, .string (Mb.told8 rs Mb.kLink l), .slice A' n' c'], .int .i64 0]) ∧ RB w' w'.heap.size A' n' [] ∧ n' ≤ c' ∧ c' ≤ maxLen ∧ Below w.heap.size w w' := by
  have hxl := ha.1
  have cpa := fun W => hpath_any p nm l m u g t z k W (by omega) (by omega)
  have ctp := fun W (hW : Below w.heap.size w W) d => mtold_any B nr cr rs Mb.kPath d W ((hr.below hW).more hW.size) hnr
  have ctl := fun W (hW : Below w.heap.size w W) d => mtold_any B nr cr rs Mb.kLink d W ((hr.below hW).more hW.size) hnr
  have ckk := fun W => mkind_any k W
  rw [hk] at ckk
  have ccl := fun W (hb : Below w.heap.size w W) => bclone_any A n c xs W ((ha.below hb).more hb.size) (by omega)
  have ejn : (if p.size = 0 then nm else p ++ ⟨#[47]⟩ ++ nm) = Mb.join p nm := rfl
  rw [ejn] at cpa
  clear ejn
  have hjs : (Mb.join p nm).size ≤ 2001 := by
    unfold Mb.join
    split
    · omega
    · rw [ByteArray.size_append, ByteArray.size_append]
      have : (⟨#[47]⟩ : ByteArray).size = 1 := rfl
      omega
  have hps : (Mb.fP rs p nm).size ≤ 100000 := Mb.told_size (fun r hr => by have := hs r hr; omega) (by omega)
  have hls : (Mb.told8 rs Mb.kLink l).size ≤ 100000 := Mb.told_size hs (by omega)
  have eP : Mb.told8 rs Mb.kPath (Mb.join p nm) = Mb.fP rs p nm := rfl
  have ctp2 := fun W (hW : Below w.heap.size w W) => ctp W hW (Mb.join p nm)
  have ctl2 := fun W (hW : Below w.heap.size w W) => ctl W hW l
  rw [eP] at ctp2
  unfold Mb.kPath at ctp2
  have ek : Mb.kLink = ⟨#[108, 105, 110, 107, 112, 97, 116, 104]⟩ := rfl
  generalize Mb.fP rs p nm = P at *
  generalize Mb.join p nm = J at *
  generalize Mb.told8 rs Mb.kLink l = LL at *
  rw [ek] at ctl2
  have CPA := Lib.hid cpa; have CTP := Lib.hid ctp2; have CTL := Lib.hid (fun W (hW : Below w.heap.size w W) (_ : Unit) => ctl2 W hW); have CKK := Lib.hid ckk; have CCL := Lib.hid ccl; have HXL := Lib.hid hxl
  have cmy := fun (A' : Option Addr) (c' : Nat) W => mmay_any P LL 3 m u g t A' 0 c' W (by omega) (by omega) (by omega)
  rw [hE] at cmy
  have CMY := Lib.hid cmy
  clear cmy hE
  clear cpa ctp ctl ctp2 ctl2 ckk ccl hr ha ek eP hjs hxl hk
  go_enter Tryz.func9, Tryz.ntmps9
  go_upto_region 1 with (fail)
  obtain ⟨W0, hW0⟩ : ∃ W0, W0 = ((w.alloc (.cells #[.string p, .string nm, .int .i64 m, .int .i64 u, .int .i64 g, .int .i64 t, .int .i64 z, .int .u8 k, .string l] 40)).alloc (.cells #[.string ⟨#[]⟩, .int .i64 0, .int .i64 0, .int .i64 0, .int .i64 0, .int .i64 0, .string ⟨#[]⟩, .slice none 0 0] 35)) := ⟨_, rfl⟩
  rw [← hW0]
  have SZ0 := Lib.hid (show W0.heap.size = w.heap.size + 1 + 1 by rw [hW0]; simp)
  have BOX := Lib.hid (show ∀ W, Below W0.heap.size W0 W → BX W w.heap.size 40 #[.string p, .string nm, .int .i64 m, .int .i64 u, .int .i64 g, .int .i64 t, .int .i64 z, .int .u8 k, .string l] ∧ BX W (w.heap.size + 1) 35 #[.string ⟨#[]⟩, .int .i64 0, .int .i64 0, .int .i64 0, .int .i64 0, .int .i64 0, .string ⟨#[]⟩, .slice none 0 0] ∧ Below w.heap.size w W by
    intro W hb
    have hsz := SZ0.out
    rw [hsz] at hb
    rw [hW0] at hb
    refine ⟨((BX.new w _ _).alloc _).below hb (by omega), ?_, (((Below.refl _ w).alloc (Nat.le_refl _) _).alloc (by simp) _).trans (hb.mono (by omega))⟩
    have h := (BX.new (w.alloc (.cells #[.string p, .string nm, .int .i64 m, .int .i64 u, .int .i64 g, .int .i64 t, .int .i64 z, .int .u8 k, .string l] 40)) 35 #[.string ⟨#[]⟩, .int .i64 0, .int .i64 0, .int .i64 0, .int .i64 0, .int .i64 0, .string ⟨#[]⟩, .slice none 0 0]).below (B := w.heap.size + 1 + 1) (w' := W) hb (by simp)
    simpa using h)
  clear hW0
  go_cut [8] (fun v wx => ∃ gb, v = .pointer (some ⟨gb, 0, none⟩) ∧ Hid (W0.heap.size ≤ gb) ∧ Hid (Below W0.heap.size W0 wx) ∧ Hid (BX wx gb 35 #[.string P, .int .i64 3, .int .i64 m, .int .i64 u, .int .i64 g, .int .i64 t, .string ⟨#[]⟩, .slice none 0 0]))
  case first =>
    have hacc : Below W0.heap.size W0 W0.drew := below_drewN (Below.refl _ _) 1
    have alls : ∀ W, Below W0.heap.size W0 W → W.cell? ⟨w.heap.size, 0, none⟩ = some (.string p) ∧ W.cell? ⟨w.heap.size, 1, none⟩ = some (.string nm) ∧ W.cell? ⟨w.heap.size, 2, none⟩ = some (.int .i64 m) ∧ W.cell? ⟨w.heap.size, 3, none⟩ = some (.int .i64 u) ∧ W.cell? ⟨w.heap.size, 4, none⟩ = some (.int .i64 g) ∧ W.cell? ⟨w.heap.size, 5, none⟩ = some (.int .i64 t) ∧ W.cell? ⟨w.heap.size, 6, none⟩ = some (.int .i64 z) ∧ W.cell? ⟨w.heap.size, 7, none⟩ = some (.int .u8 k) ∧ W.cell? ⟨w.heap.size, 8, none⟩ = some (.string l) := fun W hW => by
      obtain ⟨b, _, _⟩ := BOX.out W hW
      exact ⟨b.cell rfl, b.cell rfl, b.cell rfl, b.cell rfl, b.cell rfl, b.cell rfl, b.cell rfl, b.cell rfl, b.cell rfl⟩
    have ALLS := Lib.hid alls
    clear alls
    obtain ⟨y0, y1, y2, y3, y4, y5, y6, y7, y8⟩ := ALLS.out _ hacc
    obtain ⟨x0, x1, x2, x3, x4, x5, x6, x7, x8⟩ := ALLS.out _ (Below.refl W0.heap.size W0)
    have hne0 : W0.heap.size ≠ w.heap.size := by rw [SZ0.out]; omega
    go_region_held3 (fun w' => w'.cell? ⟨w.heap.size, 0, none⟩ = some (.string p) ∧ w'.cell? ⟨w.heap.size, 1, none⟩ = some (.string nm) ∧ w'.cell? ⟨w.heap.size, 2, none⟩ = some (.int .i64 m) ∧ w'.cell? ⟨w.heap.size, 3, none⟩ = some (.int .i64 u) ∧ w'.cell? ⟨w.heap.size, 4, none⟩ = some (.int .i64 g) ∧ w'.cell? ⟨w.heap.size, 5, none⟩ = some (.int .i64 t) ∧ w'.cell? ⟨w.heap.size, 6, none⟩ = some (.int .i64 z) ∧ w'.cell? ⟨w.heap.size, 7, none⟩ = some (.int .u8 k) ∧ w'.cell? ⟨w.heap.size, 8, none⟩ = some (.string l)) (first | go_keep | (exact ALLS.out _ hacc) | (exact ALLS.out _ (hacc.alloc hacc.size _))) (first
      | (go_at_call 32; (with_reducible refine (CPA.out _).mono ?_); rintro e w1 ⟨rfl, hb1⟩; (first | (replace hacc := bthen hacc hb1; have hne1 : w1.heap.size ≠ w.heap.size := (by have h1 := hacc.size; have h2 := SZ0.out; omega)) | (have bz : BX w1 W0.heap.size 35 #[.string ⟨#[]⟩, .int .i64 0, .int .i64 0, .int .i64 0, .int .i64 0, .int .i64 0, .string ⟨#[]⟩, .slice none 0 0] := (BX.drew (BX.new _ _ _)).later hb1; replace hacc := ((mb_new W0 (.cells #[.string ⟨#[]⟩, .int .i64 0, .int .i64 0, .int .i64 0, .int .i64 0, .int .i64 0, .string ⟨#[]⟩, .slice none 0 0] 35)).drew).trans (Below.mono hb1 (by simp <;> omega)); have z0 : w1.cell? ⟨W0.heap.size, 0, none⟩ = some (.string ⟨#[]⟩) := bz.cell rfl; have f0 := bz.free 0; have z1 : w1.cell? ⟨W0.heap.size, 1, none⟩ = some (.int .i64 0) := bz.cell rfl; have f1 := bz.free 1; have z2 : w1.cell? ⟨W0.heap.size, 2, none⟩ = some (.int .i64 0) := bz.cell rfl; have f2 := bz.free 2; have z3 : w1.cell? ⟨W0.heap.size, 3, none⟩ = some (.int .i64 0) := bz.cell rfl; have f3 := bz.free 3; have z4 : w1.cell? ⟨W0.heap.size, 4, none⟩ = some (.int .i64 0) := bz.cell rfl; have f4 := bz.free 4; have z5 : w1.cell? ⟨W0.heap.size, 5, none⟩ = some (.int .i64 0) := bz.cell rfl; have f5 := bz.free 5; have z6 : w1.cell? ⟨W0.heap.size, 6, none⟩ = some (.string ⟨#[]⟩) := bz.cell rfl; have f6 := bz.free 6; have z7 : w1.cell? ⟨W0.heap.size, 7, none⟩ = some (.slice none 0 0) := bz.cell rfl; have f7 := bz.free 7)))
      | (go_at_call 31; (with_reducible refine (CTP.out _ (by first | exact (BOX.out _ hacc).2.2 | exact (BOX.out _ (hacc.alloc hacc.size _)).2.2 | exact (BOX.out _ (mb_new W0 _).drew).2.2)).mono ?_); rintro e w2 ⟨rfl, rfl⟩)
      | (go_at_call 29; (with_reducible refine (CKK.out _).mono ?_); rintro e w3 ⟨rfl, rfl⟩))
    all_goals
      go_wp2
      go_meet
      first
        | exact ⟨_, rfl, hacc.size, hacc.alloc hacc.size _, BX.new _ _ _⟩
        | exact ⟨_, rfl, Nat.le_refl _, ((((((((hacc).setCell (Nat.le_refl _) _).setCell (Nat.le_refl _) _).setCell (Nat.le_refl _) _).setCell (Nat.le_refl _) _).setCell (Nat.le_refl _) _).setCell (Nat.le_refl _) _).setCell (Nat.le_refl _) _).setCell (Nat.le_refl _) _, (by have h := (((((((bz.set 0 (.string P)).set 1 (.int .i64 3)).set 2 (.int .i64 m)).set 3 (.int .i64 u)).set 4 (.int .i64 g)).set 5 (.int .i64 t)).set 6 (.string ⟨#[]⟩)).set 7 (.slice none 0 0); show BX _ _ _ _; simpa using h)⟩
  case rest =>
    obtain ⟨gb, rfl, HG, HBC, HBM⟩ := hcut
    have HNE := Lib.hid (show w.heap.size + 1 ≠ gb by have h1 := HG.out; have h2 := SZ0.out; intro h; change W0.heap.size ≤ gb at h1; omega)
    have HGW := Lib.hid (show w.heap.size ≤ gb by have h1 := HG.out; have h2 := SZ0.out; change W0.heap.size ≤ gb at h1; omega)
    have HGL := Lib.hid (show gb < wc.heap.size from HBM.out.lt)
    have HZL := Lib.hid (show w.heap.size + 1 < wc.heap.size from (BOX.out _ HBC.out).2.1.lt)
    have g0 : wc.cell? ⟨gb, 0, none⟩ = some (.string P) := (HBM.out).cell rfl; have g1 : wc.cell? ⟨gb, 1, none⟩ = some (.int .i64 3) := (HBM.out).cell rfl; have g2 : wc.cell? ⟨gb, 2, none⟩ = some (.int .i64 m) := (HBM.out).cell rfl; have g3 : wc.cell? ⟨gb, 3, none⟩ = some (.int .i64 u) := (HBM.out).cell rfl; have g4 : wc.cell? ⟨gb, 4, none⟩ = some (.int .i64 g) := (HBM.out).cell rfl; have g5 : wc.cell? ⟨gb, 5, none⟩ = some (.int .i64 t) := (HBM.out).cell rfl; have g6 : wc.cell? ⟨gb, 6, none⟩ = some (.string ⟨#[]⟩) := (HBM.out).cell rfl; have g7 : wc.cell? ⟨gb, 7, none⟩ = some (.slice none 0 0) := (HBM.out).cell rfl
    have hl8 : wc.cell? ⟨w.heap.size, 8, none⟩ = some (.string l) := (BOX.out _ HBC.out).1.cell rfl
    have fg := HBM.out.free 6
    have BZ2 := Lib.hid (BX.other (BOX.out _ HBC.out).2.1 HNE.out (j := 6) (.string LL))
    have BS2 := Lib.hid (HBM.out.set 6 (.string LL))
    have HW2 := Lib.hid (Below.setCell (BOX.out _ HBC.out).2.2 (p := ⟨gb, 6, none⟩) HGW.out (.string LL))
    go_wp2_with (first
      | (go_at_call 31; (with_reducible refine (CTL.out _ (BOX.out _ HBC.out).2.2 ()).mono ?_); rintro e w2 ⟨rfl, rfl⟩)
      | (go_at_call 34; (with_reducible refine (CMY.out _ _ _).mono ?_); rintro e w3 ⟨rfl, hb3⟩; have BM3 : BX w3 gb 35 #[.string P, .int .i64 3, .int .i64 m, .int .i64 u, .int .i64 g, .int .i64 t, .string LL, .slice none 0 0] := (by have h := BS2.out.later hb3; simpa using h); have BZ3 := BZ2.out.later hb3; have HW3 := Lib.hid (HW2.out.trans (hb3.mono HW2.out.size)); have r0 : w3.cell? ⟨gb, 0, none⟩ = some (.string P) := (BM3).cell rfl; have r1 : w3.cell? ⟨gb, 1, none⟩ = some (.int .i64 3) := (BM3).cell rfl; have r2 : w3.cell? ⟨gb, 2, none⟩ = some (.int .i64 m) := (BM3).cell rfl; have r3 : w3.cell? ⟨gb, 3, none⟩ = some (.int .i64 u) := (BM3).cell rfl; have r4 : w3.cell? ⟨gb, 4, none⟩ = some (.int .i64 g) := (BM3).cell rfl; have r5 : w3.cell? ⟨gb, 5, none⟩ = some (.int .i64 t) := (BM3).cell rfl; have r6 : w3.cell? ⟨gb, 6, none⟩ = some (.string LL) := (BM3).cell rfl; have r7 : w3.cell? ⟨gb, 7, none⟩ = some (.slice none 0 0) := (BM3).cell rfl; have s0 : w3.cell? ⟨(w.heap.size + 1), 0, none⟩ = some (.string ⟨#[]⟩) := (BZ3).cell rfl; have s1 : w3.cell? ⟨(w.heap.size + 1), 1, none⟩ = some (.int .i64 0) := (BZ3).cell rfl; have s2 : w3.cell? ⟨(w.heap.size + 1), 2, none⟩ = some (.int .i64 0) := (BZ3).cell rfl; have s3 : w3.cell? ⟨(w.heap.size + 1), 3, none⟩ = some (.int .i64 0) := (BZ3).cell rfl; have s4 : w3.cell? ⟨(w.heap.size + 1), 4, none⟩ = some (.int .i64 0) := (BZ3).cell rfl; have s5 : w3.cell? ⟨(w.heap.size + 1), 5, none⟩ = some (.int .i64 0) := (BZ3).cell rfl; have s6 : w3.cell? ⟨(w.heap.size + 1), 6, none⟩ = some (.string ⟨#[]⟩) := (BZ3).cell rfl; have s7 : w3.cell? ⟨(w.heap.size + 1), 7, none⟩ = some (.slice none 0 0) := (BZ3).cell rfl; have v0 := (BZ3).free 0; have v1 := (BZ3).free 1; have v2 := (BZ3).free 2; have v3 := (BZ3).free 3; have v4 := (BZ3).free 4; have v5 := (BZ3).free 5; have v6 := (BZ3).free 6; have v7 := (BZ3).free 7; have BZ3' := Lib.hid BZ3; clear BM3 BZ3 hb3))
    refine bodyPost_ret (v := .tuple #[.agg #[.string P, .int .i64 3, .int .i64 m, .int .i64 u, .int .i64 g, .int .i64 t, .string LL, .slice none 0 0], .int .i64 0]) (by simp [results, Tryz.f9, go_sem, *]) rfl ⟨none, 0, 0, rfl, ?_, ?_, ?_, ?_⟩
    · exact RB.nil
    · exact Nat.le_refl _
    · exact Nat.zero_le _
    · exact ((((((((HW3.out).setCell (by simp) _).setCell (by simp) _).setCell (by simp) _).setCell (by simp) _).setCell (by simp) _).setCell (by simp) _).setCell (by simp) _).setCell (by simp) _
theorem mfrom_3b (p nm l : ByteArray) (m u g t z k : Int) (B : Option Addr) (nr cr : Nat) (rs : List Rc.Rec) (A : Option Addr) (n c : Nat) (xs : List Int) (w : World) (hr : RL w w.heap.size B nr rs) (hnr : nr ≤ 100000) (ha : RB w w.heap.size A n xs) (hn : n ≤ 100000) (hp : p.size ≤ 1000) (hnm : nm.size ≤ 1000) (hl : l.size ≤ 1000)
    (hs : ∀ r ∈ rs, r.2.size ≤ 100000) (hk : Mb.kin k = 3) (hE : ¬ Mb.may (Mb.fP rs p nm) (Mb.told8 rs Mb.kLink l) 3 m u g t 0 = 0) :
    Calls Tryz.prog 9 #[.agg #[.string p, .string nm, .int .i64 m, .int .i64 u, .int .i64 g, .int .i64 t, .int .i64 z, .int .u8 k, .string l], .slice B nr cr, .slice A n c] w fun e w' => ∃ A' n' c', e = .returned (.tuple #[.agg #[.string ⟨#[]⟩, .int .i64 0, .int .i64 0, .int .i64 0, .int .i64 0, .int .i64 0, .string ⟨#[]⟩, .slice A' n' c'], .int .i64 (Mb.may (Mb.fP rs p nm) (Mb.told8 rs Mb.kLink l) 3 m u g t 0)]) ∧ RB w' w'.heap.size A' n' [] ∧ n' ≤ c' ∧ c' ≤ maxLen ∧ Below w.heap.size w w' := by
  have hxl := ha.1
  have cpa := fun W => hpath_any p nm l m u g t z k W (by omega) (by omega)
  have ctp := fun W (hW : Below w.heap.size w W) d => mtold_any B nr cr rs Mb.kPath d W ((hr.below hW).more hW.size) hnr
  have ctl := fun W (hW : Below w.heap.size w W) d => mtold_any B nr cr rs Mb.kLink d W ((hr.below hW).more hW.size) hnr
  have ckk := fun W => mkind_any k W
  rw [hk] at ckk
  have ccl := fun W (hb : Below w.heap.size w W) => bclone_any A n c xs W ((ha.below hb).more hb.size) (by omega)
  have ejn : (if p.size = 0 then nm else p ++ ⟨#[47]⟩ ++ nm) = Mb.join p nm := rfl
  rw [ejn] at cpa
  clear ejn
  have hjs : (Mb.join p nm).size ≤ 2001 := by
    unfold Mb.join
    split
    · omega
    · rw [ByteArray.size_append, ByteArray.size_append]
      have : (⟨#[47]⟩ : ByteArray).size = 1 := rfl
      omega
  have hps : (Mb.fP rs p nm).size ≤ 100000 := Mb.told_size (fun r hr => by have := hs r hr; omega) (by omega)
  have hls : (Mb.told8 rs Mb.kLink l).size ≤ 100000 := Mb.told_size hs (by omega)
  have eP : Mb.told8 rs Mb.kPath (Mb.join p nm) = Mb.fP rs p nm := rfl
  have ctp2 := fun W (hW : Below w.heap.size w W) => ctp W hW (Mb.join p nm)
  have ctl2 := fun W (hW : Below w.heap.size w W) => ctl W hW l
  rw [eP] at ctp2
  unfold Mb.kPath at ctp2
  have ek : Mb.kLink = ⟨#[108, 105, 110, 107, 112, 97, 116, 104]⟩ := rfl
  generalize Mb.fP rs p nm = P at *
  generalize Mb.join p nm = J at *
  generalize Mb.told8 rs Mb.kLink l = LL at *
  rw [ek] at ctl2
  have CPA := Lib.hid cpa; have CTP := Lib.hid ctp2; have CTL := Lib.hid (fun W (hW : Below w.heap.size w W) (_ : Unit) => ctl2 W hW); have CKK := Lib.hid ckk; have CCL := Lib.hid ccl; have HXL := Lib.hid hxl
  have cmy := fun (A' : Option Addr) (c' : Nat) W => mmay_any P LL 3 m u g t A' 0 c' W (by omega) (by omega) (by omega)
  generalize Mb.may P LL 3 m u g t 0 = E at *
  have hE1 : (E == 0) = false := by simp [hE]
  have hE2 : (E != 0) = true := by simp [hE]
  have CMY := Lib.hid cmy
  clear cmy hE
  clear cpa ctp ctl ctp2 ctl2 ckk ccl hr ha ek eP hjs hxl hk
  go_enter Tryz.func9, Tryz.ntmps9
  go_upto_region 1 with (fail)
  obtain ⟨W0, hW0⟩ : ∃ W0, W0 = ((w.alloc (.cells #[.string p, .string nm, .int .i64 m, .int .i64 u, .int .i64 g, .int .i64 t, .int .i64 z, .int .u8 k, .string l] 40)).alloc (.cells #[.string ⟨#[]⟩, .int .i64 0, .int .i64 0, .int .i64 0, .int .i64 0, .int .i64 0, .string ⟨#[]⟩, .slice none 0 0] 35)) := ⟨_, rfl⟩
  rw [← hW0]
  have SZ0 := Lib.hid (show W0.heap.size = w.heap.size + 1 + 1 by rw [hW0]; simp)
  have BOX := Lib.hid (show ∀ W, Below W0.heap.size W0 W → BX W w.heap.size 40 #[.string p, .string nm, .int .i64 m, .int .i64 u, .int .i64 g, .int .i64 t, .int .i64 z, .int .u8 k, .string l] ∧ BX W (w.heap.size + 1) 35 #[.string ⟨#[]⟩, .int .i64 0, .int .i64 0, .int .i64 0, .int .i64 0, .int .i64 0, .string ⟨#[]⟩, .slice none 0 0] ∧ Below w.heap.size w W by
    intro W hb
    have hsz := SZ0.out
    rw [hsz] at hb
    rw [hW0] at hb
    refine ⟨((BX.new w _ _).alloc _).below hb (by omega), ?_, (((Below.refl _ w).alloc (Nat.le_refl _) _).alloc (by simp) _).trans (hb.mono (by omega))⟩
    have h := (BX.new (w.alloc (.cells #[.string p, .string nm, .int .i64 m, .int .i64 u, .int .i64 g, .int .i64 t, .int .i64 z, .int .u8 k, .string l] 40)) 35 #[.string ⟨#[]⟩, .int .i64 0, .int .i64 0, .int .i64 0, .int .i64 0, .int .i64 0, .string ⟨#[]⟩, .slice none 0 0]).below (B := w.heap.size + 1 + 1) (w' := W) hb (by simp)
    simpa using h)
  clear hW0
  go_cut [8] (fun v wx => ∃ gb, v = .pointer (some ⟨gb, 0, none⟩) ∧ Hid (W0.heap.size ≤ gb) ∧ Hid (Below W0.heap.size W0 wx) ∧ Hid (BX wx gb 35 #[.string P, .int .i64 3, .int .i64 m, .int .i64 u, .int .i64 g, .int .i64 t, .string ⟨#[]⟩, .slice none 0 0]))
  case first =>
    have hacc : Below W0.heap.size W0 W0.drew := below_drewN (Below.refl _ _) 1
    have alls : ∀ W, Below W0.heap.size W0 W → W.cell? ⟨w.heap.size, 0, none⟩ = some (.string p) ∧ W.cell? ⟨w.heap.size, 1, none⟩ = some (.string nm) ∧ W.cell? ⟨w.heap.size, 2, none⟩ = some (.int .i64 m) ∧ W.cell? ⟨w.heap.size, 3, none⟩ = some (.int .i64 u) ∧ W.cell? ⟨w.heap.size, 4, none⟩ = some (.int .i64 g) ∧ W.cell? ⟨w.heap.size, 5, none⟩ = some (.int .i64 t) ∧ W.cell? ⟨w.heap.size, 6, none⟩ = some (.int .i64 z) ∧ W.cell? ⟨w.heap.size, 7, none⟩ = some (.int .u8 k) ∧ W.cell? ⟨w.heap.size, 8, none⟩ = some (.string l) := fun W hW => by
      obtain ⟨b, _, _⟩ := BOX.out W hW
      exact ⟨b.cell rfl, b.cell rfl, b.cell rfl, b.cell rfl, b.cell rfl, b.cell rfl, b.cell rfl, b.cell rfl, b.cell rfl⟩
    have ALLS := Lib.hid alls
    clear alls
    obtain ⟨y0, y1, y2, y3, y4, y5, y6, y7, y8⟩ := ALLS.out _ hacc
    obtain ⟨x0, x1, x2, x3, x4, x5, x6, x7, x8⟩ := ALLS.out _ (Below.refl W0.heap.size W0)
    have hne0 : W0.heap.size ≠ w.heap.size := by rw [SZ0.out]; omega
    go_region_held3 (fun w' => w'.cell? ⟨w.heap.size, 0, none⟩ = some (.string p) ∧ w'.cell? ⟨w.heap.size, 1, none⟩ = some (.string nm) ∧ w'.cell? ⟨w.heap.size, 2, none⟩ = some (.int .i64 m) ∧ w'.cell? ⟨w.heap.size, 3, none⟩ = some (.int .i64 u) ∧ w'.cell? ⟨w.heap.size, 4, none⟩ = some (.int .i64 g) ∧ w'.cell? ⟨w.heap.size, 5, none⟩ = some (.int .i64 t) ∧ w'.cell? ⟨w.heap.size, 6, none⟩ = some (.int .i64 z) ∧ w'.cell? ⟨w.heap.size, 7, none⟩ = some (.int .u8 k) ∧ w'.cell? ⟨w.heap.size, 8, none⟩ = some (.string l)) (first | go_keep | (exact ALLS.out _ hacc) | (exact ALLS.out _ (hacc.alloc hacc.size _))) (first
      | (go_at_call 32; (with_reducible refine (CPA.out _).mono ?_); rintro e w1 ⟨rfl, hb1⟩; (first | (replace hacc := bthen hacc hb1; have hne1 : w1.heap.size ≠ w.heap.size := (by have h1 := hacc.size; have h2 := SZ0.out; omega)) | (have bz : BX w1 W0.heap.size 35 #[.string ⟨#[]⟩, .int .i64 0, .int .i64 0, .int .i64 0, .int .i64 0, .int .i64 0, .string ⟨#[]⟩, .slice none 0 0] := (BX.drew (BX.new _ _ _)).later hb1; replace hacc := ((mb_new W0 (.cells #[.string ⟨#[]⟩, .int .i64 0, .int .i64 0, .int .i64 0, .int .i64 0, .int .i64 0, .string ⟨#[]⟩, .slice none 0 0] 35)).drew).trans (Below.mono hb1 (by simp <;> omega)); have z0 : w1.cell? ⟨W0.heap.size, 0, none⟩ = some (.string ⟨#[]⟩) := bz.cell rfl; have f0 := bz.free 0; have z1 : w1.cell? ⟨W0.heap.size, 1, none⟩ = some (.int .i64 0) := bz.cell rfl; have f1 := bz.free 1; have z2 : w1.cell? ⟨W0.heap.size, 2, none⟩ = some (.int .i64 0) := bz.cell rfl; have f2 := bz.free 2; have z3 : w1.cell? ⟨W0.heap.size, 3, none⟩ = some (.int .i64 0) := bz.cell rfl; have f3 := bz.free 3; have z4 : w1.cell? ⟨W0.heap.size, 4, none⟩ = some (.int .i64 0) := bz.cell rfl; have f4 := bz.free 4; have z5 : w1.cell? ⟨W0.heap.size, 5, none⟩ = some (.int .i64 0) := bz.cell rfl; have f5 := bz.free 5; have z6 : w1.cell? ⟨W0.heap.size, 6, none⟩ = some (.string ⟨#[]⟩) := bz.cell rfl; have f6 := bz.free 6; have z7 : w1.cell? ⟨W0.heap.size, 7, none⟩ = some (.slice none 0 0) := bz.cell rfl; have f7 := bz.free 7)))
      | (go_at_call 31; (with_reducible refine (CTP.out _ (by first | exact (BOX.out _ hacc).2.2 | exact (BOX.out _ (hacc.alloc hacc.size _)).2.2 | exact (BOX.out _ (mb_new W0 _).drew).2.2)).mono ?_); rintro e w2 ⟨rfl, rfl⟩)
      | (go_at_call 29; (with_reducible refine (CKK.out _).mono ?_); rintro e w3 ⟨rfl, rfl⟩))
    all_goals
      go_wp2
      go_meet
      first
        | exact ⟨_, rfl, hacc.size, hacc.alloc hacc.size _, BX.new _ _ _⟩
        | exact ⟨_, rfl, Nat.le_refl _, ((((((((hacc).setCell (Nat.le_refl _) _).setCell (Nat.le_refl _) _).setCell (Nat.le_refl _) _).setCell (Nat.le_refl _) _).setCell (Nat.le_refl _) _).setCell (Nat.le_refl _) _).setCell (Nat.le_refl _) _).setCell (Nat.le_refl _) _, (by have h := (((((((bz.set 0 (.string P)).set 1 (.int .i64 3)).set 2 (.int .i64 m)).set 3 (.int .i64 u)).set 4 (.int .i64 g)).set 5 (.int .i64 t)).set 6 (.string ⟨#[]⟩)).set 7 (.slice none 0 0); show BX _ _ _ _; simpa using h)⟩
  case rest =>
    obtain ⟨gb, rfl, HG, HBC, HBM⟩ := hcut
    have HNE := Lib.hid (show w.heap.size + 1 ≠ gb by have h1 := HG.out; have h2 := SZ0.out; intro h; change W0.heap.size ≤ gb at h1; omega)
    have HGW := Lib.hid (show w.heap.size ≤ gb by have h1 := HG.out; have h2 := SZ0.out; change W0.heap.size ≤ gb at h1; omega)
    have HGL := Lib.hid (show gb < wc.heap.size from HBM.out.lt)
    have HZL := Lib.hid (show w.heap.size + 1 < wc.heap.size from (BOX.out _ HBC.out).2.1.lt)
    have g0 : wc.cell? ⟨gb, 0, none⟩ = some (.string P) := (HBM.out).cell rfl; have g1 : wc.cell? ⟨gb, 1, none⟩ = some (.int .i64 3) := (HBM.out).cell rfl; have g2 : wc.cell? ⟨gb, 2, none⟩ = some (.int .i64 m) := (HBM.out).cell rfl; have g3 : wc.cell? ⟨gb, 3, none⟩ = some (.int .i64 u) := (HBM.out).cell rfl; have g4 : wc.cell? ⟨gb, 4, none⟩ = some (.int .i64 g) := (HBM.out).cell rfl; have g5 : wc.cell? ⟨gb, 5, none⟩ = some (.int .i64 t) := (HBM.out).cell rfl; have g6 : wc.cell? ⟨gb, 6, none⟩ = some (.string ⟨#[]⟩) := (HBM.out).cell rfl; have g7 : wc.cell? ⟨gb, 7, none⟩ = some (.slice none 0 0) := (HBM.out).cell rfl
    have hl8 : wc.cell? ⟨w.heap.size, 8, none⟩ = some (.string l) := (BOX.out _ HBC.out).1.cell rfl
    have fg := HBM.out.free 6
    have BZ2 := Lib.hid (BX.other (BOX.out _ HBC.out).2.1 HNE.out (j := 6) (.string LL))
    have BS2 := Lib.hid (HBM.out.set 6 (.string LL))
    have HW2 := Lib.hid (Below.setCell (BOX.out _ HBC.out).2.2 (p := ⟨gb, 6, none⟩) HGW.out (.string LL))
    go_wp2_with (first
      | (go_at_call 31; (with_reducible refine (CTL.out _ (BOX.out _ HBC.out).2.2 ()).mono ?_); rintro e w2 ⟨rfl, rfl⟩)
      | (go_at_call 34; (with_reducible refine (CMY.out _ _ _).mono ?_); rintro e w3 ⟨rfl, hb3⟩; have BM3 : BX w3 gb 35 #[.string P, .int .i64 3, .int .i64 m, .int .i64 u, .int .i64 g, .int .i64 t, .string LL, .slice none 0 0] := (by have h := BS2.out.later hb3; simpa using h); have BZ3 := BZ2.out.later hb3; have HW3 := Lib.hid (HW2.out.trans (hb3.mono HW2.out.size)); skip; have s0 : w3.cell? ⟨(w.heap.size + 1), 0, none⟩ = some (.string ⟨#[]⟩) := (BZ3).cell rfl; have s1 : w3.cell? ⟨(w.heap.size + 1), 1, none⟩ = some (.int .i64 0) := (BZ3).cell rfl; have s2 : w3.cell? ⟨(w.heap.size + 1), 2, none⟩ = some (.int .i64 0) := (BZ3).cell rfl; have s3 : w3.cell? ⟨(w.heap.size + 1), 3, none⟩ = some (.int .i64 0) := (BZ3).cell rfl; have s4 : w3.cell? ⟨(w.heap.size + 1), 4, none⟩ = some (.int .i64 0) := (BZ3).cell rfl; have s5 : w3.cell? ⟨(w.heap.size + 1), 5, none⟩ = some (.int .i64 0) := (BZ3).cell rfl; have s6 : w3.cell? ⟨(w.heap.size + 1), 6, none⟩ = some (.string ⟨#[]⟩) := (BZ3).cell rfl; have s7 : w3.cell? ⟨(w.heap.size + 1), 7, none⟩ = some (.slice none 0 0) := (BZ3).cell rfl; have v0 := (BZ3).free 0; have v1 := (BZ3).free 1; have v2 := (BZ3).free 2; have v3 := (BZ3).free 3; have v4 := (BZ3).free 4; have v5 := (BZ3).free 5; have v6 := (BZ3).free 6; have v7 := (BZ3).free 7; have BZ3' := Lib.hid BZ3; clear BM3 BZ3 hb3))
    refine bodyPost_ret (v := .tuple #[.agg #[.string ⟨#[]⟩, .int .i64 0, .int .i64 0, .int .i64 0, .int .i64 0, .int .i64 0, .string ⟨#[]⟩, .slice none 0 0], .int .i64 E]) (by simp [results, Tryz.f9, go_sem, *]) rfl ⟨none, 0, 0, rfl, ?_, ?_, ?_, ?_⟩
    · exact RB.nil
    · exact Nat.le_refl _
    · exact Nat.zero_le _
    · exact ((((((((HW3.out).setCell (by simp) _).setCell (by simp) _).setCell (by simp) _).setCell (by simp) _).setCell (by simp) _).setCell (by simp) _).setCell (by simp) _).setCell (by simp) _
theorem mfrom_4 (p nm l : ByteArray) (m u g t z k : Int) (B : Option Addr) (nr cr : Nat) (rs : List Rc.Rec) (A : Option Addr) (n c : Nat) (xs : List Int) (w : World) (hr : RL w w.heap.size B nr rs) (hnr : nr ≤ 100000) (ha : RB w w.heap.size A n xs) (hn : n ≤ 100000) (hp : p.size ≤ 1000) (hnm : nm.size ≤ 1000) (hl : l.size ≤ 1000)
    (hs : ∀ r ∈ rs, r.2.size ≤ 100000) (hk : Mb.kin k = 4) (hE : Mb.may (Mb.fP rs p nm) (⟨#[]⟩) 4 m u g t 0 = 0) :
    Calls Tryz.prog 9 #[.agg #[.string p, .string nm, .int .i64 m, .int .i64 u, .int .i64 g, .int .i64 t, .int .i64 z, .int .u8 k, .string l], .slice B nr cr, .slice A n c] w fun e w' => ∃ A' n' c', e = .returned (.tuple #[.agg #[.string (Mb.fP rs p nm), .int .i64 4, .int .i64 m, .int .i64 u, .int .i64 g, .int .i64 t, .string (⟨#[]⟩), .slice A' n' c'], .int .i64 0]) ∧ RB w' w'.heap.size A' n' [] ∧ n' ≤ c' ∧ c' ≤ maxLen ∧ Below w.heap.size w w' := by
  have hxl := ha.1
  have cpa := fun W => hpath_any p nm l m u g t z k W (by omega) (by omega)
  have ctp := fun W (hW : Below w.heap.size w W) d => mtold_any B nr cr rs Mb.kPath d W ((hr.below hW).more hW.size) hnr
  have ctl := fun W (hW : Below w.heap.size w W) d => mtold_any B nr cr rs Mb.kLink d W ((hr.below hW).more hW.size) hnr
  have ckk := fun W => mkind_any k W
  rw [hk] at ckk
  have ccl := fun W (hb : Below w.heap.size w W) => bclone_any A n c xs W ((ha.below hb).more hb.size) (by omega)
  have ejn : (if p.size = 0 then nm else p ++ ⟨#[47]⟩ ++ nm) = Mb.join p nm := rfl
  rw [ejn] at cpa
  clear ejn
  have hjs : (Mb.join p nm).size ≤ 2001 := by
    unfold Mb.join
    split
    · omega
    · rw [ByteArray.size_append, ByteArray.size_append]
      have : (⟨#[47]⟩ : ByteArray).size = 1 := rfl
      omega
  have hps : (Mb.fP rs p nm).size ≤ 100000 := Mb.told_size (fun r hr => by have := hs r hr; omega) (by omega)
  have hls : (Mb.told8 rs Mb.kLink l).size ≤ 100000 := Mb.told_size hs (by omega)
  have eP : Mb.told8 rs Mb.kPath (Mb.join p nm) = Mb.fP rs p nm := rfl
  have ctp2 := fun W (hW : Below w.heap.size w W) => ctp W hW (Mb.join p nm)
  have ctl2 := fun W (hW : Below w.heap.size w W) => ctl W hW l
  rw [eP] at ctp2
  unfold Mb.kPath at ctp2
  have ek : Mb.kLink = ⟨#[108, 105, 110, 107, 112, 97, 116, 104]⟩ := rfl
  generalize Mb.fP rs p nm = P at *
  generalize Mb.join p nm = J at *
  generalize Mb.told8 rs Mb.kLink l = LL at *
  rw [ek] at ctl2
  have CPA := Lib.hid cpa; have CTP := Lib.hid ctp2; have CTL := Lib.hid (fun W (hW : Below w.heap.size w W) (_ : Unit) => ctl2 W hW); have CKK := Lib.hid ckk; have CCL := Lib.hid ccl; have HXL := Lib.hid hxl
  have cmy := fun (A' : Option Addr) (c' : Nat) W => mmay_any P ⟨#[]⟩ 4 m u g t A' 0 c' W (by omega) (by decide) (by omega)
  rw [hE] at cmy
  have CMY := Lib.hid cmy
  clear cmy hE
  clear cpa ctp ctl ctp2 ctl2 ckk ccl hr ha ek eP hjs hxl hk
  go_enter Tryz.func9, Tryz.ntmps9
  go_upto_region 1 with (fail)
  obtain ⟨W0, hW0⟩ : ∃ W0, W0 = ((w.alloc (.cells #[.string p, .string nm, .int .i64 m, .int .i64 u, .int .i64 g, .int .i64 t, .int .i64 z, .int .u8 k, .string l] 40)).alloc (.cells #[.string ⟨#[]⟩, .int .i64 0, .int .i64 0, .int .i64 0, .int .i64 0, .int .i64 0, .string ⟨#[]⟩, .slice none 0 0] 35)) := ⟨_, rfl⟩
  rw [← hW0]
  have SZ0 := Lib.hid (show W0.heap.size = w.heap.size + 1 + 1 by rw [hW0]; simp)
  have BOX := Lib.hid (show ∀ W, Below W0.heap.size W0 W → BX W w.heap.size 40 #[.string p, .string nm, .int .i64 m, .int .i64 u, .int .i64 g, .int .i64 t, .int .i64 z, .int .u8 k, .string l] ∧ BX W (w.heap.size + 1) 35 #[.string ⟨#[]⟩, .int .i64 0, .int .i64 0, .int .i64 0, .int .i64 0, .int .i64 0, .string ⟨#[]⟩, .slice none 0 0] ∧ Below w.heap.size w W by
    intro W hb
    have hsz := SZ0.out
    rw [hsz] at hb
    rw [hW0] at hb
    refine ⟨((BX.new w _ _).alloc _).below hb (by omega), ?_, (((Below.refl _ w).alloc (Nat.le_refl _) _).alloc (by simp) _).trans (hb.mono (by omega))⟩
    have h := (BX.new (w.alloc (.cells #[.string p, .string nm, .int .i64 m, .int .i64 u, .int .i64 g, .int .i64 t, .int .i64 z, .int .u8 k, .string l] 40)) 35 #[.string ⟨#[]⟩, .int .i64 0, .int .i64 0, .int .i64 0, .int .i64 0, .int .i64 0, .string ⟨#[]⟩, .slice none 0 0]).below (B := w.heap.size + 1 + 1) (w' := W) hb (by simp)
    simpa using h)
  clear hW0
  go_cut [8] (fun v wx => ∃ gb, v = .pointer (some ⟨gb, 0, none⟩) ∧ Hid (W0.heap.size ≤ gb) ∧ Hid (Below W0.heap.size W0 wx) ∧ Hid (BX wx gb 35 #[.string P, .int .i64 4, .int .i64 m, .int .i64 u, .int .i64 g, .int .i64 t, .string ⟨#[]⟩, .slice none 0 0]))
  case first =>
    have hacc : Below W0.heap.size W0 W0.drew := below_drewN (Below.refl _ _) 1
    have alls : ∀ W, Below W0.heap.size W0 W → W.cell? ⟨w.heap.size, 0, none⟩ = some (.string p) ∧ W.cell? ⟨w.heap.size, 1, none⟩ = some (.string nm) ∧ W.cell? ⟨w.heap.size, 2, none⟩ = some (.int .i64 m) ∧ W.cell? ⟨w.heap.size, 3, none⟩ = some (.int .i64 u) ∧ W.cell? ⟨w.heap.size, 4, none⟩ = some (.int .i64 g) ∧ W.cell? ⟨w.heap.size, 5, none⟩ = some (.int .i64 t) ∧ W.cell? ⟨w.heap.size, 6, none⟩ = some (.int .i64 z) ∧ W.cell? ⟨w.heap.size, 7, none⟩ = some (.int .u8 k) ∧ W.cell? ⟨w.heap.size, 8, none⟩ = some (.string l) := fun W hW => by
      obtain ⟨b, _, _⟩ := BOX.out W hW
      exact ⟨b.cell rfl, b.cell rfl, b.cell rfl, b.cell rfl, b.cell rfl, b.cell rfl, b.cell rfl, b.cell rfl, b.cell rfl⟩
    have ALLS := Lib.hid alls
    clear alls
    obtain ⟨y0, y1, y2, y3, y4, y5, y6, y7, y8⟩ := ALLS.out _ hacc
    obtain ⟨x0, x1, x2, x3, x4, x5, x6, x7, x8⟩ := ALLS.out _ (Below.refl W0.heap.size W0)
    have hne0 : W0.heap.size ≠ w.heap.size := by rw [SZ0.out]; omega
    go_region_held3 (fun w' => w'.cell? ⟨w.heap.size, 0, none⟩ = some (.string p) ∧ w'.cell? ⟨w.heap.size, 1, none⟩ = some (.string nm) ∧ w'.cell? ⟨w.heap.size, 2, none⟩ = some (.int .i64 m) ∧ w'.cell? ⟨w.heap.size, 3, none⟩ = some (.int .i64 u) ∧ w'.cell? ⟨w.heap.size, 4, none⟩ = some (.int .i64 g) ∧ w'.cell? ⟨w.heap.size, 5, none⟩ = some (.int .i64 t) ∧ w'.cell? ⟨w.heap.size, 6, none⟩ = some (.int .i64 z) ∧ w'.cell? ⟨w.heap.size, 7, none⟩ = some (.int .u8 k) ∧ w'.cell? ⟨w.heap.size, 8, none⟩ = some (.string l)) (first | go_keep | (exact ALLS.out _ hacc) | (exact ALLS.out _ (hacc.alloc hacc.size _))) (first
      | (go_at_call 32; (with_reducible refine (CPA.out _).mono ?_); rintro e w1 ⟨rfl, hb1⟩; (first | (replace hacc := bthen hacc hb1; have hne1 : w1.heap.size ≠ w.heap.size := (by have h1 := hacc.size; have h2 := SZ0.out; omega)) | (have bz : BX w1 W0.heap.size 35 #[.string ⟨#[]⟩, .int .i64 0, .int .i64 0, .int .i64 0, .int .i64 0, .int .i64 0, .string ⟨#[]⟩, .slice none 0 0] := (BX.drew (BX.new _ _ _)).later hb1; replace hacc := ((mb_new W0 (.cells #[.string ⟨#[]⟩, .int .i64 0, .int .i64 0, .int .i64 0, .int .i64 0, .int .i64 0, .string ⟨#[]⟩, .slice none 0 0] 35)).drew).trans (Below.mono hb1 (by simp <;> omega)); have z0 : w1.cell? ⟨W0.heap.size, 0, none⟩ = some (.string ⟨#[]⟩) := bz.cell rfl; have f0 := bz.free 0; have z1 : w1.cell? ⟨W0.heap.size, 1, none⟩ = some (.int .i64 0) := bz.cell rfl; have f1 := bz.free 1; have z2 : w1.cell? ⟨W0.heap.size, 2, none⟩ = some (.int .i64 0) := bz.cell rfl; have f2 := bz.free 2; have z3 : w1.cell? ⟨W0.heap.size, 3, none⟩ = some (.int .i64 0) := bz.cell rfl; have f3 := bz.free 3; have z4 : w1.cell? ⟨W0.heap.size, 4, none⟩ = some (.int .i64 0) := bz.cell rfl; have f4 := bz.free 4; have z5 : w1.cell? ⟨W0.heap.size, 5, none⟩ = some (.int .i64 0) := bz.cell rfl; have f5 := bz.free 5; have z6 : w1.cell? ⟨W0.heap.size, 6, none⟩ = some (.string ⟨#[]⟩) := bz.cell rfl; have f6 := bz.free 6; have z7 : w1.cell? ⟨W0.heap.size, 7, none⟩ = some (.slice none 0 0) := bz.cell rfl; have f7 := bz.free 7)))
      | (go_at_call 31; (with_reducible refine (CTP.out _ (by first | exact (BOX.out _ hacc).2.2 | exact (BOX.out _ (hacc.alloc hacc.size _)).2.2 | exact (BOX.out _ (mb_new W0 _).drew).2.2)).mono ?_); rintro e w2 ⟨rfl, rfl⟩)
      | (go_at_call 29; (with_reducible refine (CKK.out _).mono ?_); rintro e w3 ⟨rfl, rfl⟩))
    all_goals
      go_wp2
      go_meet
      first
        | exact ⟨_, rfl, hacc.size, hacc.alloc hacc.size _, BX.new _ _ _⟩
        | exact ⟨_, rfl, Nat.le_refl _, ((((((((hacc).setCell (Nat.le_refl _) _).setCell (Nat.le_refl _) _).setCell (Nat.le_refl _) _).setCell (Nat.le_refl _) _).setCell (Nat.le_refl _) _).setCell (Nat.le_refl _) _).setCell (Nat.le_refl _) _).setCell (Nat.le_refl _) _, (by have h := (((((((bz.set 0 (.string P)).set 1 (.int .i64 4)).set 2 (.int .i64 m)).set 3 (.int .i64 u)).set 4 (.int .i64 g)).set 5 (.int .i64 t)).set 6 (.string ⟨#[]⟩)).set 7 (.slice none 0 0); show BX _ _ _ _; simpa using h)⟩
  case rest =>
    obtain ⟨gb, rfl, HG, HBC, HBM⟩ := hcut
    have HNE := Lib.hid (show w.heap.size + 1 ≠ gb by have h1 := HG.out; have h2 := SZ0.out; intro h; change W0.heap.size ≤ gb at h1; omega)
    have HGW := Lib.hid (show w.heap.size ≤ gb by have h1 := HG.out; have h2 := SZ0.out; change W0.heap.size ≤ gb at h1; omega)
    have HGL := Lib.hid (show gb < wc.heap.size from HBM.out.lt)
    have HZL := Lib.hid (show w.heap.size + 1 < wc.heap.size from (BOX.out _ HBC.out).2.1.lt)
    have g0 : wc.cell? ⟨gb, 0, none⟩ = some (.string P) := (HBM.out).cell rfl; have g1 : wc.cell? ⟨gb, 1, none⟩ = some (.int .i64 4) := (HBM.out).cell rfl; have g2 : wc.cell? ⟨gb, 2, none⟩ = some (.int .i64 m) := (HBM.out).cell rfl; have g3 : wc.cell? ⟨gb, 3, none⟩ = some (.int .i64 u) := (HBM.out).cell rfl; have g4 : wc.cell? ⟨gb, 4, none⟩ = some (.int .i64 g) := (HBM.out).cell rfl; have g5 : wc.cell? ⟨gb, 5, none⟩ = some (.int .i64 t) := (HBM.out).cell rfl; have g6 : wc.cell? ⟨gb, 6, none⟩ = some (.string ⟨#[]⟩) := (HBM.out).cell rfl; have g7 : wc.cell? ⟨gb, 7, none⟩ = some (.slice none 0 0) := (HBM.out).cell rfl
    have BZ2 := Lib.hid (BOX.out _ HBC.out).2.1
    have BS2 := Lib.hid HBM.out
    have HW2 := Lib.hid (BOX.out _ HBC.out).2.2
    go_wp2_with (first
      | (go_at_call 34; (with_reducible refine (CMY.out _ _ _).mono ?_); rintro e w3 ⟨rfl, hb3⟩; have BM3 : BX w3 gb 35 #[.string P, .int .i64 4, .int .i64 m, .int .i64 u, .int .i64 g, .int .i64 t, .string ⟨#[]⟩, .slice none 0 0] := (by have h := BS2.out.later hb3; simpa using h); have BZ3 := BZ2.out.later hb3; have HW3 := Lib.hid (HW2.out.trans (hb3.mono HW2.out.size)); have r0 : w3.cell? ⟨gb, 0, none⟩ = some (.string P) := (BM3).cell rfl; have r1 : w3.cell? ⟨gb, 1, none⟩ = some (.int .i64 4) := (BM3).cell rfl; have r2 : w3.cell? ⟨gb, 2, none⟩ = some (.int .i64 m) := (BM3).cell rfl; have r3 : w3.cell? ⟨gb, 3, none⟩ = some (.int .i64 u) := (BM3).cell rfl; have r4 : w3.cell? ⟨gb, 4, none⟩ = some (.int .i64 g) := (BM3).cell rfl; have r5 : w3.cell? ⟨gb, 5, none⟩ = some (.int .i64 t) := (BM3).cell rfl; have r6 : w3.cell? ⟨gb, 6, none⟩ = some (.string ⟨#[]⟩) := (BM3).cell rfl; have r7 : w3.cell? ⟨gb, 7, none⟩ = some (.slice none 0 0) := (BM3).cell rfl; have s0 : w3.cell? ⟨(w.heap.size + 1), 0, none⟩ = some (.string ⟨#[]⟩) := (BZ3).cell rfl; have s1 : w3.cell? ⟨(w.heap.size + 1), 1, none⟩ = some (.int .i64 0) := (BZ3).cell rfl; have s2 : w3.cell? ⟨(w.heap.size + 1), 2, none⟩ = some (.int .i64 0) := (BZ3).cell rfl; have s3 : w3.cell? ⟨(w.heap.size + 1), 3, none⟩ = some (.int .i64 0) := (BZ3).cell rfl; have s4 : w3.cell? ⟨(w.heap.size + 1), 4, none⟩ = some (.int .i64 0) := (BZ3).cell rfl; have s5 : w3.cell? ⟨(w.heap.size + 1), 5, none⟩ = some (.int .i64 0) := (BZ3).cell rfl; have s6 : w3.cell? ⟨(w.heap.size + 1), 6, none⟩ = some (.string ⟨#[]⟩) := (BZ3).cell rfl; have s7 : w3.cell? ⟨(w.heap.size + 1), 7, none⟩ = some (.slice none 0 0) := (BZ3).cell rfl; have v0 := (BZ3).free 0; have v1 := (BZ3).free 1; have v2 := (BZ3).free 2; have v3 := (BZ3).free 3; have v4 := (BZ3).free 4; have v5 := (BZ3).free 5; have v6 := (BZ3).free 6; have v7 := (BZ3).free 7; have BZ3' := Lib.hid BZ3; clear BM3 BZ3 hb3))
    refine bodyPost_ret (v := .tuple #[.agg #[.string P, .int .i64 4, .int .i64 m, .int .i64 u, .int .i64 g, .int .i64 t, .string ⟨#[]⟩, .slice none 0 0], .int .i64 0]) (by simp [results, Tryz.f9, go_sem, *]) rfl ⟨none, 0, 0, rfl, ?_, ?_, ?_, ?_⟩
    · exact RB.nil
    · exact Nat.le_refl _
    · exact Nat.zero_le _
    · exact ((((((((HW3.out).setCell (by simp) _).setCell (by simp) _).setCell (by simp) _).setCell (by simp) _).setCell (by simp) _).setCell (by simp) _).setCell (by simp) _).setCell (by simp) _
theorem mfrom_4b (p nm l : ByteArray) (m u g t z k : Int) (B : Option Addr) (nr cr : Nat) (rs : List Rc.Rec) (A : Option Addr) (n c : Nat) (xs : List Int) (w : World) (hr : RL w w.heap.size B nr rs) (hnr : nr ≤ 100000) (ha : RB w w.heap.size A n xs) (hn : n ≤ 100000) (hp : p.size ≤ 1000) (hnm : nm.size ≤ 1000) (hl : l.size ≤ 1000)
    (hs : ∀ r ∈ rs, r.2.size ≤ 100000) (hk : Mb.kin k = 4) (hE : ¬ Mb.may (Mb.fP rs p nm) (⟨#[]⟩) 4 m u g t 0 = 0) :
    Calls Tryz.prog 9 #[.agg #[.string p, .string nm, .int .i64 m, .int .i64 u, .int .i64 g, .int .i64 t, .int .i64 z, .int .u8 k, .string l], .slice B nr cr, .slice A n c] w fun e w' => ∃ A' n' c', e = .returned (.tuple #[.agg #[.string ⟨#[]⟩, .int .i64 0, .int .i64 0, .int .i64 0, .int .i64 0, .int .i64 0, .string ⟨#[]⟩, .slice A' n' c'], .int .i64 (Mb.may (Mb.fP rs p nm) (⟨#[]⟩) 4 m u g t 0)]) ∧ RB w' w'.heap.size A' n' [] ∧ n' ≤ c' ∧ c' ≤ maxLen ∧ Below w.heap.size w w' := by
  have hxl := ha.1
  have cpa := fun W => hpath_any p nm l m u g t z k W (by omega) (by omega)
  have ctp := fun W (hW : Below w.heap.size w W) d => mtold_any B nr cr rs Mb.kPath d W ((hr.below hW).more hW.size) hnr
  have ctl := fun W (hW : Below w.heap.size w W) d => mtold_any B nr cr rs Mb.kLink d W ((hr.below hW).more hW.size) hnr
  have ckk := fun W => mkind_any k W
  rw [hk] at ckk
  have ccl := fun W (hb : Below w.heap.size w W) => bclone_any A n c xs W ((ha.below hb).more hb.size) (by omega)
  have ejn : (if p.size = 0 then nm else p ++ ⟨#[47]⟩ ++ nm) = Mb.join p nm := rfl
  rw [ejn] at cpa
  clear ejn
  have hjs : (Mb.join p nm).size ≤ 2001 := by
    unfold Mb.join
    split
    · omega
    · rw [ByteArray.size_append, ByteArray.size_append]
      have : (⟨#[47]⟩ : ByteArray).size = 1 := rfl
      omega
  have hps : (Mb.fP rs p nm).size ≤ 100000 := Mb.told_size (fun r hr => by have := hs r hr; omega) (by omega)
  have hls : (Mb.told8 rs Mb.kLink l).size ≤ 100000 := Mb.told_size hs (by omega)
  have eP : Mb.told8 rs Mb.kPath (Mb.join p nm) = Mb.fP rs p nm := rfl
  have ctp2 := fun W (hW : Below w.heap.size w W) => ctp W hW (Mb.join p nm)
  have ctl2 := fun W (hW : Below w.heap.size w W) => ctl W hW l
  rw [eP] at ctp2
  unfold Mb.kPath at ctp2
  have ek : Mb.kLink = ⟨#[108, 105, 110, 107, 112, 97, 116, 104]⟩ := rfl
  generalize Mb.fP rs p nm = P at *
  generalize Mb.join p nm = J at *
  generalize Mb.told8 rs Mb.kLink l = LL at *
  rw [ek] at ctl2
  have CPA := Lib.hid cpa; have CTP := Lib.hid ctp2; have CTL := Lib.hid (fun W (hW : Below w.heap.size w W) (_ : Unit) => ctl2 W hW); have CKK := Lib.hid ckk; have CCL := Lib.hid ccl; have HXL := Lib.hid hxl
  have cmy := fun (A' : Option Addr) (c' : Nat) W => mmay_any P ⟨#[]⟩ 4 m u g t A' 0 c' W (by omega) (by decide) (by omega)
  generalize Mb.may P ⟨#[]⟩ 4 m u g t 0 = E at *
  have hE1 : (E == 0) = false := by simp [hE]
  have hE2 : (E != 0) = true := by simp [hE]
  have CMY := Lib.hid cmy
  clear cmy hE
  clear cpa ctp ctl ctp2 ctl2 ckk ccl hr ha ek eP hjs hxl hk
  go_enter Tryz.func9, Tryz.ntmps9
  go_upto_region 1 with (fail)
  obtain ⟨W0, hW0⟩ : ∃ W0, W0 = ((w.alloc (.cells #[.string p, .string nm, .int .i64 m, .int .i64 u, .int .i64 g, .int .i64 t, .int .i64 z, .int .u8 k, .string l] 40)).alloc (.cells #[.string ⟨#[]⟩, .int .i64 0, .int .i64 0, .int .i64 0, .int .i64 0, .int .i64 0, .string ⟨#[]⟩, .slice none 0 0] 35)) := ⟨_, rfl⟩
  rw [← hW0]
  have SZ0 := Lib.hid (show W0.heap.size = w.heap.size + 1 + 1 by rw [hW0]; simp)
  have BOX := Lib.hid (show ∀ W, Below W0.heap.size W0 W → BX W w.heap.size 40 #[.string p, .string nm, .int .i64 m, .int .i64 u, .int .i64 g, .int .i64 t, .int .i64 z, .int .u8 k, .string l] ∧ BX W (w.heap.size + 1) 35 #[.string ⟨#[]⟩, .int .i64 0, .int .i64 0, .int .i64 0, .int .i64 0, .int .i64 0, .string ⟨#[]⟩, .slice none 0 0] ∧ Below w.heap.size w W by
    intro W hb
    have hsz := SZ0.out
    rw [hsz] at hb
    rw [hW0] at hb
    refine ⟨((BX.new w _ _).alloc _).below hb (by omega), ?_, (((Below.refl _ w).alloc (Nat.le_refl _) _).alloc (by simp) _).trans (hb.mono (by omega))⟩
    have h := (BX.new (w.alloc (.cells #[.string p, .string nm, .int .i64 m, .int .i64 u, .int .i64 g, .int .i64 t, .int .i64 z, .int .u8 k, .string l] 40)) 35 #[.string ⟨#[]⟩, .int .i64 0, .int .i64 0, .int .i64 0, .int .i64 0, .int .i64 0, .string ⟨#[]⟩, .slice none 0 0]).below (B := w.heap.size + 1 + 1) (w' := W) hb (by simp)
    simpa using h)
  clear hW0
  go_cut [8] (fun v wx => ∃ gb, v = .pointer (some ⟨gb, 0, none⟩) ∧ Hid (W0.heap.size ≤ gb) ∧ Hid (Below W0.heap.size W0 wx) ∧ Hid (BX wx gb 35 #[.string P, .int .i64 4, .int .i64 m, .int .i64 u, .int .i64 g, .int .i64 t, .string ⟨#[]⟩, .slice none 0 0]))
  case first =>
    have hacc : Below W0.heap.size W0 W0.drew := below_drewN (Below.refl _ _) 1
    have alls : ∀ W, Below W0.heap.size W0 W → W.cell? ⟨w.heap.size, 0, none⟩ = some (.string p) ∧ W.cell? ⟨w.heap.size, 1, none⟩ = some (.string nm) ∧ W.cell? ⟨w.heap.size, 2, none⟩ = some (.int .i64 m) ∧ W.cell? ⟨w.heap.size, 3, none⟩ = some (.int .i64 u) ∧ W.cell? ⟨w.heap.size, 4, none⟩ = some (.int .i64 g) ∧ W.cell? ⟨w.heap.size, 5, none⟩ = some (.int .i64 t) ∧ W.cell? ⟨w.heap.size, 6, none⟩ = some (.int .i64 z) ∧ W.cell? ⟨w.heap.size, 7, none⟩ = some (.int .u8 k) ∧ W.cell? ⟨w.heap.size, 8, none⟩ = some (.string l) := fun W hW => by
      obtain ⟨b, _, _⟩ := BOX.out W hW
      exact ⟨b.cell rfl, b.cell rfl, b.cell rfl, b.cell rfl, b.cell rfl, b.cell rfl, b.cell rfl, b.cell rfl, b.cell rfl⟩
    have ALLS := Lib.hid alls
    clear alls
    obtain ⟨y0, y1, y2, y3, y4, y5, y6, y7, y8⟩ := ALLS.out _ hacc
    obtain ⟨x0, x1, x2, x3, x4, x5, x6, x7, x8⟩ := ALLS.out _ (Below.refl W0.heap.size W0)
    have hne0 : W0.heap.size ≠ w.heap.size := by rw [SZ0.out]; omega
    go_region_held3 (fun w' => w'.cell? ⟨w.heap.size, 0, none⟩ = some (.string p) ∧ w'.cell? ⟨w.heap.size, 1, none⟩ = some (.string nm) ∧ w'.cell? ⟨w.heap.size, 2, none⟩ = some (.int .i64 m) ∧ w'.cell? ⟨w.heap.size, 3, none⟩ = some (.int .i64 u) ∧ w'.cell? ⟨w.heap.size, 4, none⟩ = some (.int .i64 g) ∧ w'.cell? ⟨w.heap.size, 5, none⟩ = some (.int .i64 t) ∧ w'.cell? ⟨w.heap.size, 6, none⟩ = some (.int .i64 z) ∧ w'.cell? ⟨w.heap.size, 7, none⟩ = some (.int .u8 k) ∧ w'.cell? ⟨w.heap.size, 8, none⟩ = some (.string l)) (first | go_keep | (exact ALLS.out _ hacc) | (exact ALLS.out _ (hacc.alloc hacc.size _))) (first
      | (go_at_call 32; (with_reducible refine (CPA.out _).mono ?_); rintro e w1 ⟨rfl, hb1⟩; (first | (replace hacc := bthen hacc hb1; have hne1 : w1.heap.size ≠ w.heap.size := (by have h1 := hacc.size; have h2 := SZ0.out; omega)) | (have bz : BX w1 W0.heap.size 35 #[.string ⟨#[]⟩, .int .i64 0, .int .i64 0, .int .i64 0, .int .i64 0, .int .i64 0, .string ⟨#[]⟩, .slice none 0 0] := (BX.drew (BX.new _ _ _)).later hb1; replace hacc := ((mb_new W0 (.cells #[.string ⟨#[]⟩, .int .i64 0, .int .i64 0, .int .i64 0, .int .i64 0, .int .i64 0, .string ⟨#[]⟩, .slice none 0 0] 35)).drew).trans (Below.mono hb1 (by simp <;> omega)); have z0 : w1.cell? ⟨W0.heap.size, 0, none⟩ = some (.string ⟨#[]⟩) := bz.cell rfl; have f0 := bz.free 0; have z1 : w1.cell? ⟨W0.heap.size, 1, none⟩ = some (.int .i64 0) := bz.cell rfl; have f1 := bz.free 1; have z2 : w1.cell? ⟨W0.heap.size, 2, none⟩ = some (.int .i64 0) := bz.cell rfl; have f2 := bz.free 2; have z3 : w1.cell? ⟨W0.heap.size, 3, none⟩ = some (.int .i64 0) := bz.cell rfl; have f3 := bz.free 3; have z4 : w1.cell? ⟨W0.heap.size, 4, none⟩ = some (.int .i64 0) := bz.cell rfl; have f4 := bz.free 4; have z5 : w1.cell? ⟨W0.heap.size, 5, none⟩ = some (.int .i64 0) := bz.cell rfl; have f5 := bz.free 5; have z6 : w1.cell? ⟨W0.heap.size, 6, none⟩ = some (.string ⟨#[]⟩) := bz.cell rfl; have f6 := bz.free 6; have z7 : w1.cell? ⟨W0.heap.size, 7, none⟩ = some (.slice none 0 0) := bz.cell rfl; have f7 := bz.free 7)))
      | (go_at_call 31; (with_reducible refine (CTP.out _ (by first | exact (BOX.out _ hacc).2.2 | exact (BOX.out _ (hacc.alloc hacc.size _)).2.2 | exact (BOX.out _ (mb_new W0 _).drew).2.2)).mono ?_); rintro e w2 ⟨rfl, rfl⟩)
      | (go_at_call 29; (with_reducible refine (CKK.out _).mono ?_); rintro e w3 ⟨rfl, rfl⟩))
    all_goals
      go_wp2
      go_meet
      first
        | exact ⟨_, rfl, hacc.size, hacc.alloc hacc.size _, BX.new _ _ _⟩
        | exact ⟨_, rfl, Nat.le_refl _, ((((((((hacc).setCell (Nat.le_refl _) _).setCell (Nat.le_refl _) _).setCell (Nat.le_refl _) _).setCell (Nat.le_refl _) _).setCell (Nat.le_refl _) _).setCell (Nat.le_refl _) _).setCell (Nat.le_refl _) _).setCell (Nat.le_refl _) _, (by have h := (((((((bz.set 0 (.string P)).set 1 (.int .i64 4)).set 2 (.int .i64 m)).set 3 (.int .i64 u)).set 4 (.int .i64 g)).set 5 (.int .i64 t)).set 6 (.string ⟨#[]⟩)).set 7 (.slice none 0 0); show BX _ _ _ _; simpa using h)⟩
  case rest =>
    obtain ⟨gb, rfl, HG, HBC, HBM⟩ := hcut
    have HNE := Lib.hid (show w.heap.size + 1 ≠ gb by have h1 := HG.out; have h2 := SZ0.out; intro h; change W0.heap.size ≤ gb at h1; omega)
    have HGW := Lib.hid (show w.heap.size ≤ gb by have h1 := HG.out; have h2 := SZ0.out; change W0.heap.size ≤ gb at h1; omega)
    have HGL := Lib.hid (show gb < wc.heap.size from HBM.out.lt)
    have HZL := Lib.hid (show w.heap.size + 1 < wc.heap.size from (BOX.out _ HBC.out).2.1.lt)
    have g0 : wc.cell? ⟨gb, 0, none⟩ = some (.string P) := (HBM.out).cell rfl; have g1 : wc.cell? ⟨gb, 1, none⟩ = some (.int .i64 4) := (HBM.out).cell rfl; have g2 : wc.cell? ⟨gb, 2, none⟩ = some (.int .i64 m) := (HBM.out).cell rfl; have g3 : wc.cell? ⟨gb, 3, none⟩ = some (.int .i64 u) := (HBM.out).cell rfl; have g4 : wc.cell? ⟨gb, 4, none⟩ = some (.int .i64 g) := (HBM.out).cell rfl; have g5 : wc.cell? ⟨gb, 5, none⟩ = some (.int .i64 t) := (HBM.out).cell rfl; have g6 : wc.cell? ⟨gb, 6, none⟩ = some (.string ⟨#[]⟩) := (HBM.out).cell rfl; have g7 : wc.cell? ⟨gb, 7, none⟩ = some (.slice none 0 0) := (HBM.out).cell rfl
    have BZ2 := Lib.hid (BOX.out _ HBC.out).2.1
    have BS2 := Lib.hid HBM.out
    have HW2 := Lib.hid (BOX.out _ HBC.out).2.2
    go_wp2_with (first
      | (go_at_call 34; (with_reducible refine (CMY.out _ _ _).mono ?_); rintro e w3 ⟨rfl, hb3⟩; have BM3 : BX w3 gb 35 #[.string P, .int .i64 4, .int .i64 m, .int .i64 u, .int .i64 g, .int .i64 t, .string ⟨#[]⟩, .slice none 0 0] := (by have h := BS2.out.later hb3; simpa using h); have BZ3 := BZ2.out.later hb3; have HW3 := Lib.hid (HW2.out.trans (hb3.mono HW2.out.size)); skip; have s0 : w3.cell? ⟨(w.heap.size + 1), 0, none⟩ = some (.string ⟨#[]⟩) := (BZ3).cell rfl; have s1 : w3.cell? ⟨(w.heap.size + 1), 1, none⟩ = some (.int .i64 0) := (BZ3).cell rfl; have s2 : w3.cell? ⟨(w.heap.size + 1), 2, none⟩ = some (.int .i64 0) := (BZ3).cell rfl; have s3 : w3.cell? ⟨(w.heap.size + 1), 3, none⟩ = some (.int .i64 0) := (BZ3).cell rfl; have s4 : w3.cell? ⟨(w.heap.size + 1), 4, none⟩ = some (.int .i64 0) := (BZ3).cell rfl; have s5 : w3.cell? ⟨(w.heap.size + 1), 5, none⟩ = some (.int .i64 0) := (BZ3).cell rfl; have s6 : w3.cell? ⟨(w.heap.size + 1), 6, none⟩ = some (.string ⟨#[]⟩) := (BZ3).cell rfl; have s7 : w3.cell? ⟨(w.heap.size + 1), 7, none⟩ = some (.slice none 0 0) := (BZ3).cell rfl; have v0 := (BZ3).free 0; have v1 := (BZ3).free 1; have v2 := (BZ3).free 2; have v3 := (BZ3).free 3; have v4 := (BZ3).free 4; have v5 := (BZ3).free 5; have v6 := (BZ3).free 6; have v7 := (BZ3).free 7; have BZ3' := Lib.hid BZ3; clear BM3 BZ3 hb3))
    refine bodyPost_ret (v := .tuple #[.agg #[.string ⟨#[]⟩, .int .i64 0, .int .i64 0, .int .i64 0, .int .i64 0, .int .i64 0, .string ⟨#[]⟩, .slice none 0 0], .int .i64 E]) (by simp [results, Tryz.f9, go_sem, *]) rfl ⟨none, 0, 0, rfl, ?_, ?_, ?_, ?_⟩
    · exact RB.nil
    · exact Nat.le_refl _
    · exact Nat.zero_le _
    · exact ((((((((HW3.out).setCell (by simp) _).setCell (by simp) _).setCell (by simp) _).setCell (by simp) _).setCell (by simp) _).setCell (by simp) _).setCell (by simp) _).setCell (by simp) _
end Go.Proofs.YtjhigkkkfkahdaaGreatDoor
