/- WALKS OF LAYER 8, FIFTH PART: the records that a member needs, the code's and the reference's. By gen_e8e.py. -/
import Derived.Test.YtjhigkkkfkahdaaGreatDoorGe1
import Derived.Test.YtjhigkkkfkahdaaGreatDoorGr6
namespace Go.Proofs.YtjhigkkkfkahdaaGreatDoor
open Go Go.RowKit
set_option maxHeartbeats 1600000
set_option maxRecDepth 100000
set_option linter.unusedVariables false
theorem owns_base {w : World} {B B' size n : Nat} {e : TypeId} {v : Value} {xs : List Value} (h : w.ownsRow B e size v n xs) (hB : B' ≤ B) : w.ownsRow B' e size v n xs := by
  refine ⟨h.1, ?_⟩
  rcases h.2 with hl | ⟨g, cap, cur, rfl, hbg, hg, h1, h2, h3, h4⟩
  · exact .inl hl
  · exact .inr ⟨g, cap, cur, rfl, Nat.le_trans hB hbg, hg, h1, h2, h3, h4⟩
theorem info_rec6 : (Tryz.prog.info? 31).map (fun i => (i.zero, i.size, i.bytes)) = some (some (.agg #[.string ⟨#[]⟩, .string ⟨#[]⟩]), 2, 32) := by kernel_rfl
theorem partsB_fits (s : ByteArray) (k : Nat) : partsB s k = Mb.fits s k := rfl
theorem mrecs_any (p l : ByteArray) (k m u g t : Int) (A : Option Addr) (n c : Nat) (q : Nat) (w : World) (hp : p.size ≤ 1000000) (hq : Sf.IsCut p q) (hl : l.size ≤ 1000000) :
    Calls Tryz.prog 15 #[.agg #[.string p, .int .i64 k, .int .i64 m, .int .i64 u, .int .i64 g, .int .i64 t, .string l, .slice A n c]] w fun e w' => ∃ v, e = .returned v ∧ RO w' w.heap.size 32 v (Mb.recsL p l q) ∧ Below w.heap.size w w' := by
  obtain ⟨i0, hi, hz0, hz1, hz2⟩ := info_parts info_rec
  have cf := fun W => fits_any p q W hp hq
  rw [partsB_fits] at cf
  unfold Mb.recsL
  cases hf : Mb.fits p q with
  | true =>
    rw [hf] at cf
    have CF := Lib.hid cf
    clear cf hf
    rw [if_pos rfl, List.nil_append]
    by_cases hs : 100 < l.size
    · have hs' : (100 : Int) < l.size := by omega
      rw [if_pos hs]
      clear hs
      go_enter Tryz.func15, Tryz.ntmps15
      go_wp2_with (first
        | (go_at_call 43; (with_reducible refine (CF.out _).mono ?_); rintro e w1 ⟨rfl, j1, rfl⟩; have q0 : ((w.alloc (.cells #[.string p, .int .i64 k, .int .i64 m, .int .i64 u, .int .i64 g, .int .i64 t, .string l, .slice A n c] 35)).drewN j1).cell? ⟨w.heap.size, 0, none⟩ = some (.string p) := (BX.drewN (BX.new w _ _) _).cell rfl; have q6 : ((w.alloc (.cells #[.string p, .int .i64 k, .int .i64 m, .int .i64 u, .int .i64 g, .int .i64 t, .string l, .slice A n c] 35)).drewN j1).cell? ⟨w.heap.size, 6, none⟩ = some (.string l) := (BX.drewN (BX.new w _ _) _).cell rfl; obtain ⟨W1, hW1⟩ : ∃ W1, W1 = (w.alloc (.cells #[.string p, .int .i64 k, .int .i64 m, .int .i64 u, .int .i64 g, .int .i64 t, .string l, .slice A n c] 35)).drewN j1 := ⟨_, rfl⟩; rw [← hW1] at q0 q6 ⊢; have HW1 := Lib.hid (show Below (w.heap.size + 1) (w.alloc (.cells #[.string p, .int .i64 k, .int .i64 m, .int .i64 u, .int .i64 g, .int .i64 t, .string l, .slice A n c] 35)) W1 by rw [hW1]; exact below_drewN (Below.refl _ _) _); have OWN1 := Lib.hid (show W1.ownsRow (w.heap.size + 1) 32 2 (.slice none 0 0) 0 [] from World.ownsRow_nil _ _ _ _); have NEW1 := Lib.hid (fun (k v : ByteArray) => news2 W1 32 k v); have SZ1 := Lib.hid (show w.heap.size + 1 ≤ W1.heap.size by rw [hW1]; simp); clear hW1)
        | (at_builtin; refine wpList_append_own _ rfl _ _ 29 rfl (w.heap.size + 1) 32 i0 (.agg #[.string ⟨#[]⟩, .string ⟨#[]⟩]) 2 32 Tryz.underlying29 hi hz0 hz1 hz2 rfl (by decide) _ 0 [] rfl (owns_below OWN1.out ((Below.refl _ _).alloc (Nat.le_refl _) _)) ⟨W1.heap.size, 0, none⟩ 1 1 [.string Mb.kLink, .string l] rfl rfl (NEW1.out _ _) (two_cells _ _) (by unfold maxLen; omega) (by omega) (by have := SZ1.out; simp; omega) ?_; intro v3 W3 hown3 hgrow3 hnil3; have OWN3 := Lib.hid (show W3.ownsRow (w.heap.size + 1) 32 2 v3 (0 + 1) ([] ++ [.string Mb.kLink, .string l]) from hown3); have HW3 := Lib.hid (below_app6 (HW1.out.alloc SZ1.out _) (by simp) (owns_below OWN1.out ((Below.refl _ _).alloc (Nat.le_refl _) _)) hgrow3); clear hown3 hgrow3 hnil3))
      go_ret
      exact ⟨_, rfl, owns_base OWN3.out (by omega), (mb_new _ _).trans (HW3.out.mono (by omega))⟩
    · have hs' : ¬ (100 : Int) < l.size := by omega
      rw [if_neg hs]
      clear hs
      go_enter Tryz.func15, Tryz.ntmps15
      go_wp2_with (first
        | (go_at_call 43; (with_reducible refine (CF.out _).mono ?_); rintro e w1 ⟨rfl, j1, rfl⟩; have q0 : ((w.alloc (.cells #[.string p, .int .i64 k, .int .i64 m, .int .i64 u, .int .i64 g, .int .i64 t, .string l, .slice A n c] 35)).drewN j1).cell? ⟨w.heap.size, 0, none⟩ = some (.string p) := (BX.drewN (BX.new w _ _) _).cell rfl; have q6 : ((w.alloc (.cells #[.string p, .int .i64 k, .int .i64 m, .int .i64 u, .int .i64 g, .int .i64 t, .string l, .slice A n c] 35)).drewN j1).cell? ⟨w.heap.size, 6, none⟩ = some (.string l) := (BX.drewN (BX.new w _ _) _).cell rfl; obtain ⟨W1, hW1⟩ : ∃ W1, W1 = (w.alloc (.cells #[.string p, .int .i64 k, .int .i64 m, .int .i64 u, .int .i64 g, .int .i64 t, .string l, .slice A n c] 35)).drewN j1 := ⟨_, rfl⟩; rw [← hW1] at q0 q6 ⊢; have HW1 := Lib.hid (show Below (w.heap.size + 1) (w.alloc (.cells #[.string p, .int .i64 k, .int .i64 m, .int .i64 u, .int .i64 g, .int .i64 t, .string l, .slice A n c] 35)) W1 by rw [hW1]; exact below_drewN (Below.refl _ _) _); have OWN1 := Lib.hid (show W1.ownsRow (w.heap.size + 1) 32 2 (.slice none 0 0) 0 [] from World.ownsRow_nil _ _ _ _); have NEW1 := Lib.hid (fun (k v : ByteArray) => news2 W1 32 k v); have SZ1 := Lib.hid (show w.heap.size + 1 ≤ W1.heap.size by rw [hW1]; simp); clear hW1))
      go_ret
      exact ⟨_, rfl, owns_base OWN1.out (by omega), (mb_new _ _).trans (HW1.out.mono (by omega))⟩
  | false =>
    rw [hf] at cf
    have CF := Lib.hid cf
    clear cf hf
    rw [if_neg (by decide)]
    by_cases hs : 100 < l.size
    · have hs' : (100 : Int) < l.size := by omega
      rw [if_pos hs]
      clear hs
      go_enter Tryz.func15, Tryz.ntmps15
      go_wp2_with (first
        | (go_at_call 43; (with_reducible refine (CF.out _).mono ?_); rintro e w1 ⟨rfl, j1, rfl⟩; have q0 : ((w.alloc (.cells #[.string p, .int .i64 k, .int .i64 m, .int .i64 u, .int .i64 g, .int .i64 t, .string l, .slice A n c] 35)).drewN j1).cell? ⟨w.heap.size, 0, none⟩ = some (.string p) := (BX.drewN (BX.new w _ _) _).cell rfl; have q6 : ((w.alloc (.cells #[.string p, .int .i64 k, .int .i64 m, .int .i64 u, .int .i64 g, .int .i64 t, .string l, .slice A n c] 35)).drewN j1).cell? ⟨w.heap.size, 6, none⟩ = some (.string l) := (BX.drewN (BX.new w _ _) _).cell rfl; obtain ⟨W1, hW1⟩ : ∃ W1, W1 = (w.alloc (.cells #[.string p, .int .i64 k, .int .i64 m, .int .i64 u, .int .i64 g, .int .i64 t, .string l, .slice A n c] 35)).drewN j1 := ⟨_, rfl⟩; rw [← hW1] at q0 q6 ⊢; have HW1 := Lib.hid (show Below (w.heap.size + 1) (w.alloc (.cells #[.string p, .int .i64 k, .int .i64 m, .int .i64 u, .int .i64 g, .int .i64 t, .string l, .slice A n c] 35)) W1 by rw [hW1]; exact below_drewN (Below.refl _ _) _); have OWN1 := Lib.hid (show W1.ownsRow (w.heap.size + 1) 32 2 (.slice none 0 0) 0 [] from World.ownsRow_nil _ _ _ _); have NEW1 := Lib.hid (fun (k v : ByteArray) => news2 W1 32 k v); have SZ1 := Lib.hid (show w.heap.size + 1 ≤ W1.heap.size by rw [hW1]; simp); clear hW1)
        | (at_builtin; refine wpList_append_own _ rfl _ _ 29 rfl (w.heap.size + 1) 32 i0 (.agg #[.string ⟨#[]⟩, .string ⟨#[]⟩]) 2 32 Tryz.underlying29 hi hz0 hz1 hz2 rfl (by decide) _ 0 [] rfl (owns_below OWN1.out ((Below.refl _ _).alloc (Nat.le_refl _) _)) ⟨W1.heap.size, 0, none⟩ 1 1 [.string Mb.kPath, .string p] rfl rfl (NEW1.out _ _) (two_cells _ _) (by unfold maxLen; omega) (by omega) (by have := SZ1.out; simp; omega) ?_; intro v2 W2 hown2 hgrow2 hnil2; have OWN2 := Lib.hid (show W2.ownsRow (w.heap.size + 1) 32 2 v2 1 [.string Mb.kPath, .string p] from hown2); have HW2 := Lib.hid (below_app6 (HW1.out.alloc SZ1.out _) (by simp) (owns_below OWN1.out ((Below.refl _ _).alloc (Nat.le_refl _) _)) hgrow2); have SZ2 := Lib.hid (show w.heap.size + 1 ≤ W2.heap.size by have := HW2.out.size; simpa using this); have NEW2 := Lib.hid (fun (k v : ByteArray) => news2 W2 32 k v); have q6' : W2.cell? ⟨w.heap.size, 6, none⟩ = some (.string l) := ((BX.new w 35 #[.string p, .int .i64 k, .int .i64 m, .int .i64 u, .int .i64 g, .int .i64 t, .string l, .slice A n c]).below HW2.out (by omega)).cell rfl; clear hown2 hgrow2 hnil2)
        | (at_builtin; refine wpList_append_own _ rfl _ _ 29 rfl (w.heap.size + 1) 32 i0 (.agg #[.string ⟨#[]⟩, .string ⟨#[]⟩]) 2 32 Tryz.underlying29 hi hz0 hz1 hz2 rfl (by decide) _ 1 [.string Mb.kPath, .string p] rfl (owns_below OWN2.out ((Below.refl _ _).alloc (Nat.le_refl _) _)) ⟨W2.heap.size, 0, none⟩ 1 1 [.string Mb.kLink, .string l] rfl rfl (NEW2.out _ _) (two_cells _ _) (by unfold maxLen; omega) (by omega) (by have := SZ2.out; simp; omega) ?_; intro v3 W3 hown3 hgrow3 hnil3; have OWN3 := Lib.hid (show W3.ownsRow (w.heap.size + 1) 32 2 v3 (1 + 1) ([.string Mb.kPath, .string p] ++ [.string Mb.kLink, .string l]) from hown3); have HW3 := Lib.hid (below_app6 (HW2.out.alloc SZ2.out _) (by simp) (owns_below OWN2.out ((Below.refl _ _).alloc (Nat.le_refl _) _)) hgrow3); clear hown3 hgrow3 hnil3))
      go_ret
      exact ⟨_, rfl, owns_base OWN3.out (by omega), (mb_new _ _).trans (HW3.out.mono (by omega))⟩
    · have hs' : ¬ (100 : Int) < l.size := by omega
      rw [if_neg hs]
      clear hs
      go_enter Tryz.func15, Tryz.ntmps15
      go_wp2_with (first
        | (go_at_call 43; (with_reducible refine (CF.out _).mono ?_); rintro e w1 ⟨rfl, j1, rfl⟩; have q0 : ((w.alloc (.cells #[.string p, .int .i64 k, .int .i64 m, .int .i64 u, .int .i64 g, .int .i64 t, .string l, .slice A n c] 35)).drewN j1).cell? ⟨w.heap.size, 0, none⟩ = some (.string p) := (BX.drewN (BX.new w _ _) _).cell rfl; have q6 : ((w.alloc (.cells #[.string p, .int .i64 k, .int .i64 m, .int .i64 u, .int .i64 g, .int .i64 t, .string l, .slice A n c] 35)).drewN j1).cell? ⟨w.heap.size, 6, none⟩ = some (.string l) := (BX.drewN (BX.new w _ _) _).cell rfl; obtain ⟨W1, hW1⟩ : ∃ W1, W1 = (w.alloc (.cells #[.string p, .int .i64 k, .int .i64 m, .int .i64 u, .int .i64 g, .int .i64 t, .string l, .slice A n c] 35)).drewN j1 := ⟨_, rfl⟩; rw [← hW1] at q0 q6 ⊢; have HW1 := Lib.hid (show Below (w.heap.size + 1) (w.alloc (.cells #[.string p, .int .i64 k, .int .i64 m, .int .i64 u, .int .i64 g, .int .i64 t, .string l, .slice A n c] 35)) W1 by rw [hW1]; exact below_drewN (Below.refl _ _) _); have OWN1 := Lib.hid (show W1.ownsRow (w.heap.size + 1) 32 2 (.slice none 0 0) 0 [] from World.ownsRow_nil _ _ _ _); have NEW1 := Lib.hid (fun (k v : ByteArray) => news2 W1 32 k v); have SZ1 := Lib.hid (show w.heap.size + 1 ≤ W1.heap.size by rw [hW1]; simp); clear hW1)
        | (at_builtin; refine wpList_append_own _ rfl _ _ 29 rfl (w.heap.size + 1) 32 i0 (.agg #[.string ⟨#[]⟩, .string ⟨#[]⟩]) 2 32 Tryz.underlying29 hi hz0 hz1 hz2 rfl (by decide) _ 0 [] rfl (owns_below OWN1.out ((Below.refl _ _).alloc (Nat.le_refl _) _)) ⟨W1.heap.size, 0, none⟩ 1 1 [.string Mb.kPath, .string p] rfl rfl (NEW1.out _ _) (two_cells _ _) (by unfold maxLen; omega) (by omega) (by have := SZ1.out; simp; omega) ?_; intro v2 W2 hown2 hgrow2 hnil2; have OWN2 := Lib.hid (show W2.ownsRow (w.heap.size + 1) 32 2 v2 1 [.string Mb.kPath, .string p] from hown2); have HW2 := Lib.hid (below_app6 (HW1.out.alloc SZ1.out _) (by simp) (owns_below OWN1.out ((Below.refl _ _).alloc (Nat.le_refl _) _)) hgrow2); have SZ2 := Lib.hid (show w.heap.size + 1 ≤ W2.heap.size by have := HW2.out.size; simpa using this); have NEW2 := Lib.hid (fun (k v : ByteArray) => news2 W2 32 k v); have q6' : W2.cell? ⟨w.heap.size, 6, none⟩ = some (.string l) := ((BX.new w 35 #[.string p, .int .i64 k, .int .i64 m, .int .i64 u, .int .i64 g, .int .i64 t, .string l, .slice A n c]).below HW2.out (by omega)).cell rfl; clear hown2 hgrow2 hnil2))
      go_ret
      exact ⟨_, rfl, owns_base OWN2.out (by omega), (mb_new _ _).trans (HW2.out.mono (by omega))⟩
theorem refmrecs_any (p l : ByteArray) (k m u g t : Int) (A : Option Addr) (n c : Nat) (q : Nat) (w : World) (hp : p.size ≤ 1000000) (hq : Sf.IsCut p q) (hl : l.size ≤ 1000000) :
    Calls Tryz.prog 72 #[.agg #[.string p, .int .i64 k, .int .i64 m, .int .i64 u, .int .i64 g, .int .i64 t, .string l, .slice A n c]] w fun e w' => ∃ v, e = .returned v ∧ RO w' w.heap.size 31 v (Mb.recsL p l q) ∧ Below w.heap.size w w' := by
  obtain ⟨i0, hi, hz0, hz1, hz2⟩ := info_parts info_rec6
  have cf := fun W => refsplit_any p q W hp hq
  obtain ⟨pp, pn, hv⟩ := parts_of p q
  rw [hv, partsB_fits] at cf
  clear hv
  unfold Mb.recsL
  cases hf : Mb.fits p q with
  | true =>
    rw [hf] at cf
    have CF := Lib.hid cf
    clear cf hf
    rw [if_pos rfl, List.nil_append]
    by_cases hs : 100 < l.size
    · have hs' : (100 : Int) < l.size := by omega
      rw [if_pos hs]
      clear hs
      go_enter Tryz.func72, Tryz.ntmps72
      go_wp2_with (first
        | (go_at_call 76; (with_reducible refine (CF.out _).mono ?_); rintro e w1 ⟨rfl, j1, rfl⟩; have q0 : ((w.alloc (.cells #[.string p, .int .i64 k, .int .i64 m, .int .i64 u, .int .i64 g, .int .i64 t, .string l, .slice A n c] 42)).drewN j1).cell? ⟨w.heap.size, 0, none⟩ = some (.string p) := (BX.drewN (BX.new w _ _) _).cell rfl; have q6 : ((w.alloc (.cells #[.string p, .int .i64 k, .int .i64 m, .int .i64 u, .int .i64 g, .int .i64 t, .string l, .slice A n c] 42)).drewN j1).cell? ⟨w.heap.size, 6, none⟩ = some (.string l) := (BX.drewN (BX.new w _ _) _).cell rfl; obtain ⟨W1, hW1⟩ : ∃ W1, W1 = (w.alloc (.cells #[.string p, .int .i64 k, .int .i64 m, .int .i64 u, .int .i64 g, .int .i64 t, .string l, .slice A n c] 42)).drewN j1 := ⟨_, rfl⟩; rw [← hW1] at q0 q6 ⊢; have HW1 := Lib.hid (show Below (w.heap.size + 1) (w.alloc (.cells #[.string p, .int .i64 k, .int .i64 m, .int .i64 u, .int .i64 g, .int .i64 t, .string l, .slice A n c] 42)) W1 by rw [hW1]; exact below_drewN (Below.refl _ _) _); have OWN1 := Lib.hid (show W1.ownsRow (w.heap.size + 1) 31 2 (.slice none 0 0) 0 [] from World.ownsRow_nil _ _ _ _); have NEW1 := Lib.hid (fun (k v : ByteArray) => news2 W1 31 k v); have SZ1 := Lib.hid (show w.heap.size + 1 ≤ W1.heap.size by rw [hW1]; simp); clear hW1)
        | (at_builtin; refine wpList_append_own _ rfl _ _ 26 rfl (w.heap.size + 1) 31 i0 (.agg #[.string ⟨#[]⟩, .string ⟨#[]⟩]) 2 32 Tryz.underlying26 hi hz0 hz1 hz2 rfl (by decide) _ 0 [] rfl (owns_below OWN1.out ((Below.refl _ _).alloc (Nat.le_refl _) _)) ⟨W1.heap.size, 0, none⟩ 1 1 [.string Mb.kLink, .string l] rfl rfl (NEW1.out _ _) (two_cells _ _) (by unfold maxLen; omega) (by omega) (by have := SZ1.out; simp; omega) ?_; intro v3 W3 hown3 hgrow3 hnil3; have OWN3 := Lib.hid (show W3.ownsRow (w.heap.size + 1) 31 2 v3 (0 + 1) ([] ++ [.string Mb.kLink, .string l]) from hown3); have HW3 := Lib.hid (below_app6 (HW1.out.alloc SZ1.out _) (by simp) (owns_below OWN1.out ((Below.refl _ _).alloc (Nat.le_refl _) _)) hgrow3); clear hown3 hgrow3 hnil3))
      go_ret
      exact ⟨_, rfl, owns_base OWN3.out (by omega), (mb_new _ _).trans (HW3.out.mono (by omega))⟩
    · have hs' : ¬ (100 : Int) < l.size := by omega
      rw [if_neg hs]
      clear hs
      go_enter Tryz.func72, Tryz.ntmps72
      go_wp2_with (first
        | (go_at_call 76; (with_reducible refine (CF.out _).mono ?_); rintro e w1 ⟨rfl, j1, rfl⟩; have q0 : ((w.alloc (.cells #[.string p, .int .i64 k, .int .i64 m, .int .i64 u, .int .i64 g, .int .i64 t, .string l, .slice A n c] 42)).drewN j1).cell? ⟨w.heap.size, 0, none⟩ = some (.string p) := (BX.drewN (BX.new w _ _) _).cell rfl; have q6 : ((w.alloc (.cells #[.string p, .int .i64 k, .int .i64 m, .int .i64 u, .int .i64 g, .int .i64 t, .string l, .slice A n c] 42)).drewN j1).cell? ⟨w.heap.size, 6, none⟩ = some (.string l) := (BX.drewN (BX.new w _ _) _).cell rfl; obtain ⟨W1, hW1⟩ : ∃ W1, W1 = (w.alloc (.cells #[.string p, .int .i64 k, .int .i64 m, .int .i64 u, .int .i64 g, .int .i64 t, .string l, .slice A n c] 42)).drewN j1 := ⟨_, rfl⟩; rw [← hW1] at q0 q6 ⊢; have HW1 := Lib.hid (show Below (w.heap.size + 1) (w.alloc (.cells #[.string p, .int .i64 k, .int .i64 m, .int .i64 u, .int .i64 g, .int .i64 t, .string l, .slice A n c] 42)) W1 by rw [hW1]; exact below_drewN (Below.refl _ _) _); have OWN1 := Lib.hid (show W1.ownsRow (w.heap.size + 1) 31 2 (.slice none 0 0) 0 [] from World.ownsRow_nil _ _ _ _); have NEW1 := Lib.hid (fun (k v : ByteArray) => news2 W1 31 k v); have SZ1 := Lib.hid (show w.heap.size + 1 ≤ W1.heap.size by rw [hW1]; simp); clear hW1))
      go_ret
      exact ⟨_, rfl, owns_base OWN1.out (by omega), (mb_new _ _).trans (HW1.out.mono (by omega))⟩
  | false =>
    rw [hf] at cf
    have CF := Lib.hid cf
    clear cf hf
    rw [if_neg (by decide)]
    by_cases hs : 100 < l.size
    · have hs' : (100 : Int) < l.size := by omega
      rw [if_pos hs]
      clear hs
      go_enter Tryz.func72, Tryz.ntmps72
      go_wp2_with (first
        | (go_at_call 76; (with_reducible refine (CF.out _).mono ?_); rintro e w1 ⟨rfl, j1, rfl⟩; have q0 : ((w.alloc (.cells #[.string p, .int .i64 k, .int .i64 m, .int .i64 u, .int .i64 g, .int .i64 t, .string l, .slice A n c] 42)).drewN j1).cell? ⟨w.heap.size, 0, none⟩ = some (.string p) := (BX.drewN (BX.new w _ _) _).cell rfl; have q6 : ((w.alloc (.cells #[.string p, .int .i64 k, .int .i64 m, .int .i64 u, .int .i64 g, .int .i64 t, .string l, .slice A n c] 42)).drewN j1).cell? ⟨w.heap.size, 6, none⟩ = some (.string l) := (BX.drewN (BX.new w _ _) _).cell rfl; obtain ⟨W1, hW1⟩ : ∃ W1, W1 = (w.alloc (.cells #[.string p, .int .i64 k, .int .i64 m, .int .i64 u, .int .i64 g, .int .i64 t, .string l, .slice A n c] 42)).drewN j1 := ⟨_, rfl⟩; rw [← hW1] at q0 q6 ⊢; have HW1 := Lib.hid (show Below (w.heap.size + 1) (w.alloc (.cells #[.string p, .int .i64 k, .int .i64 m, .int .i64 u, .int .i64 g, .int .i64 t, .string l, .slice A n c] 42)) W1 by rw [hW1]; exact below_drewN (Below.refl _ _) _); have OWN1 := Lib.hid (show W1.ownsRow (w.heap.size + 1) 31 2 (.slice none 0 0) 0 [] from World.ownsRow_nil _ _ _ _); have NEW1 := Lib.hid (fun (k v : ByteArray) => news2 W1 31 k v); have SZ1 := Lib.hid (show w.heap.size + 1 ≤ W1.heap.size by rw [hW1]; simp); clear hW1)
        | (at_builtin; refine wpList_append_own _ rfl _ _ 26 rfl (w.heap.size + 1) 31 i0 (.agg #[.string ⟨#[]⟩, .string ⟨#[]⟩]) 2 32 Tryz.underlying26 hi hz0 hz1 hz2 rfl (by decide) _ 0 [] rfl (owns_below OWN1.out ((Below.refl _ _).alloc (Nat.le_refl _) _)) ⟨W1.heap.size, 0, none⟩ 1 1 [.string Mb.kPath, .string p] rfl rfl (NEW1.out _ _) (two_cells _ _) (by unfold maxLen; omega) (by omega) (by have := SZ1.out; simp; omega) ?_; intro v2 W2 hown2 hgrow2 hnil2; have OWN2 := Lib.hid (show W2.ownsRow (w.heap.size + 1) 31 2 v2 1 [.string Mb.kPath, .string p] from hown2); have HW2 := Lib.hid (below_app6 (HW1.out.alloc SZ1.out _) (by simp) (owns_below OWN1.out ((Below.refl _ _).alloc (Nat.le_refl _) _)) hgrow2); have SZ2 := Lib.hid (show w.heap.size + 1 ≤ W2.heap.size by have := HW2.out.size; simpa using this); have NEW2 := Lib.hid (fun (k v : ByteArray) => news2 W2 31 k v); have q6' : W2.cell? ⟨w.heap.size, 6, none⟩ = some (.string l) := ((BX.new w 42 #[.string p, .int .i64 k, .int .i64 m, .int .i64 u, .int .i64 g, .int .i64 t, .string l, .slice A n c]).below HW2.out (by omega)).cell rfl; clear hown2 hgrow2 hnil2)
        | (at_builtin; refine wpList_append_own _ rfl _ _ 26 rfl (w.heap.size + 1) 31 i0 (.agg #[.string ⟨#[]⟩, .string ⟨#[]⟩]) 2 32 Tryz.underlying26 hi hz0 hz1 hz2 rfl (by decide) _ 1 [.string Mb.kPath, .string p] rfl (owns_below OWN2.out ((Below.refl _ _).alloc (Nat.le_refl _) _)) ⟨W2.heap.size, 0, none⟩ 1 1 [.string Mb.kLink, .string l] rfl rfl (NEW2.out _ _) (two_cells _ _) (by unfold maxLen; omega) (by omega) (by have := SZ2.out; simp; omega) ?_; intro v3 W3 hown3 hgrow3 hnil3; have OWN3 := Lib.hid (show W3.ownsRow (w.heap.size + 1) 31 2 v3 (1 + 1) ([.string Mb.kPath, .string p] ++ [.string Mb.kLink, .string l]) from hown3); have HW3 := Lib.hid (below_app6 (HW2.out.alloc SZ2.out _) (by simp) (owns_below OWN2.out ((Below.refl _ _).alloc (Nat.le_refl _) _)) hgrow3); clear hown3 hgrow3 hnil3))
      go_ret
      exact ⟨_, rfl, owns_base OWN3.out (by omega), (mb_new _ _).trans (HW3.out.mono (by omega))⟩
    · have hs' : ¬ (100 : Int) < l.size := by omega
      rw [if_neg hs]
      clear hs
      go_enter Tryz.func72, Tryz.ntmps72
      go_wp2_with (first
        | (go_at_call 76; (with_reducible refine (CF.out _).mono ?_); rintro e w1 ⟨rfl, j1, rfl⟩; have q0 : ((w.alloc (.cells #[.string p, .int .i64 k, .int .i64 m, .int .i64 u, .int .i64 g, .int .i64 t, .string l, .slice A n c] 42)).drewN j1).cell? ⟨w.heap.size, 0, none⟩ = some (.string p) := (BX.drewN (BX.new w _ _) _).cell rfl; have q6 : ((w.alloc (.cells #[.string p, .int .i64 k, .int .i64 m, .int .i64 u, .int .i64 g, .int .i64 t, .string l, .slice A n c] 42)).drewN j1).cell? ⟨w.heap.size, 6, none⟩ = some (.string l) := (BX.drewN (BX.new w _ _) _).cell rfl; obtain ⟨W1, hW1⟩ : ∃ W1, W1 = (w.alloc (.cells #[.string p, .int .i64 k, .int .i64 m, .int .i64 u, .int .i64 g, .int .i64 t, .string l, .slice A n c] 42)).drewN j1 := ⟨_, rfl⟩; rw [← hW1] at q0 q6 ⊢; have HW1 := Lib.hid (show Below (w.heap.size + 1) (w.alloc (.cells #[.string p, .int .i64 k, .int .i64 m, .int .i64 u, .int .i64 g, .int .i64 t, .string l, .slice A n c] 42)) W1 by rw [hW1]; exact below_drewN (Below.refl _ _) _); have OWN1 := Lib.hid (show W1.ownsRow (w.heap.size + 1) 31 2 (.slice none 0 0) 0 [] from World.ownsRow_nil _ _ _ _); have NEW1 := Lib.hid (fun (k v : ByteArray) => news2 W1 31 k v); have SZ1 := Lib.hid (show w.heap.size + 1 ≤ W1.heap.size by rw [hW1]; simp); clear hW1)
        | (at_builtin; refine wpList_append_own _ rfl _ _ 26 rfl (w.heap.size + 1) 31 i0 (.agg #[.string ⟨#[]⟩, .string ⟨#[]⟩]) 2 32 Tryz.underlying26 hi hz0 hz1 hz2 rfl (by decide) _ 0 [] rfl (owns_below OWN1.out ((Below.refl _ _).alloc (Nat.le_refl _) _)) ⟨W1.heap.size, 0, none⟩ 1 1 [.string Mb.kPath, .string p] rfl rfl (NEW1.out _ _) (two_cells _ _) (by unfold maxLen; omega) (by omega) (by have := SZ1.out; simp; omega) ?_; intro v2 W2 hown2 hgrow2 hnil2; have OWN2 := Lib.hid (show W2.ownsRow (w.heap.size + 1) 31 2 v2 1 [.string Mb.kPath, .string p] from hown2); have HW2 := Lib.hid (below_app6 (HW1.out.alloc SZ1.out _) (by simp) (owns_below OWN1.out ((Below.refl _ _).alloc (Nat.le_refl _) _)) hgrow2); have SZ2 := Lib.hid (show w.heap.size + 1 ≤ W2.heap.size by have := HW2.out.size; simpa using this); have NEW2 := Lib.hid (fun (k v : ByteArray) => news2 W2 31 k v); have q6' : W2.cell? ⟨w.heap.size, 6, none⟩ = some (.string l) := ((BX.new w 42 #[.string p, .int .i64 k, .int .i64 m, .int .i64 u, .int .i64 g, .int .i64 t, .string l, .slice A n c]).below HW2.out (by omega)).cell rfl; clear hown2 hgrow2 hnil2))
      go_ret
      exact ⟨_, rfl, owns_base OWN2.out (by omega), (mb_new _ _).trans (HW2.out.mono (by omega))⟩
end Go.Proofs.YtjhigkkkfkahdaaGreatDoor
