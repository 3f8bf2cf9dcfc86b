/- WALKS OF LAYER 13, TWENTY-SIXTH PART: act on a tree, with its footprint; an error turns nothing. -/
import Derived.Test.YthgbncpiehcghaaGreatDoorG13x
namespace Go.Proofs.YthgbncpiehcghaaGreatDoor
set_option linter.unusedVariables false
open Go Go.RowKit Go.Maps
set_option maxRecDepth 100000
set_option maxHeartbeats 8000000
open Nt (Tr Nd WF Ps Path at_ cnt used)
theorem Done.frame {F : Nat → Prop} {K tb : Nat} {w w1 w' : World} {r : Tr × Int} {e : Ending} (hb : Below w.heap.size w w1) (hd : Done F K w1 w' tb r e) : Done F K w w' tb r e := by
  obtain ⟨h1, ⟨ad, mb, h2⟩, h3⟩ := hd
  refine ⟨h1, ⟨ad, mb, h2.weak ?_ (Nat.le_refl _)⟩, Keep.grow hb h3⟩
  rintro k (h | h)
  · exact .inl h
  · exact .inr ⟨Nat.le_trans hb.size h.1, h.2⟩
theorem stp_err {T : Tr} {kd : Int} {p q : ByteArray} {a b c d : Int} {A : Option Addr} {n k : Nat} {xs : List Int} (h : (stp T kd p q a b c d A n k xs).2 ≠ 0) : (stp T kd p q a b c d A n k xs).1 = T := by
  unfold stp at h ⊢
  split at h
  · rename_i h0; rw [if_pos h0]; unfold Tr.mk' at h ⊢; split at h
    · exact absurd rfl h
    · rename_i h1; rw [if_neg h1]
  · rename_i h0; rw [if_neg h0]; split at h
    · rename_i h0; rw [if_pos h0]; unfold Tr.mk' at h ⊢; split at h
      · exact absurd rfl h
      · rename_i h1; rw [if_neg h1]
    · rename_i h0; rw [if_neg h0]; split at h
      · rename_i h0; rw [if_pos h0]; unfold Tr.mk' at h ⊢; split at h
        · exact absurd rfl h
        · rename_i h1; rw [if_neg h1]
      · rename_i h0; rw [if_neg h0]; split at h
        · rename_i h0; rw [if_pos h0]; unfold Tr.lnk at h ⊢; split at h
          · exact absurd rfl h
          · rename_i h1; rw [if_neg h1]
        · rename_i h0; rw [if_neg h0]; split at h
          · rename_i h0; rw [if_pos h0]; unfold Tr.wr at h ⊢; split at h
            · exact absurd rfl h
            · rename_i h1; rw [if_neg h1]
          · rename_i h0; rw [if_neg h0]; split at h
            · rename_i h0; rw [if_pos h0]; unfold Tr.st at h ⊢; split at h
              · exact absurd rfl h
              · rename_i h1; rw [if_neg h1]
            · rename_i h0; rw [if_neg h0]; split at h
              · rename_i h0; rw [if_pos h0]; unfold Tr.rm at h ⊢; split at h
                · exact absurd rfl h
                · rename_i h1; rw [if_neg h1]
              · rename_i h0; rw [if_neg h0]; split at h
                · rename_i h0; rw [if_pos h0]; unfold Tr.clr at h ⊢; split at h
                  · exact absurd rfl h
                  · rename_i h1; rw [if_neg h1]
                · rename_i h0; rw [if_neg h0]; unfold Tr.rn at h ⊢; split at h
                  · exact absurd rfl h
                  · rename_i h1; rw [if_neg h1]; split at h
                    · rename_i h2; rw [if_pos h2]
                    · rename_i h2; rw [if_neg h2]
theorem act_done {F : Nat → Prop} {w : World} {tb K : Nat} {T : Tr} {ad mb : Nat → Nat} (hW : WF T K) (hK : K ≤ 100000) (hR : RepP F K w tb T ad mb) (kd : Int) (p q : ByteArray) (hp : p.size ≤ 100000) (hq : q.size ≤ 100000) (a b c d : Int) (A : Option Addr) (n k : Nat) (xs : List Int) (B : Nat) (hd : RB w B A n xs) (hB : B ≤ w.heap.size) (hBt : B ≤ tb) (hn : n ≤ 1000000) :
    Calls Tryz.prog 13 #[.pointer (some ⟨tb, 0, none⟩), .agg (StC kd p q a b c d A n k)] w fun e w' => Done F K w w' tb (stp T kd p q a b c d A n k xs) e := by
  have hb := bthen (below_new w (.cells (StC kd p q a b c d A n k) 38)) (below_new _ (.cells #[.int .i64 a, .int .i64 b, .int .i64 c, .int .i64 d] 72))
  have HA := hR.later hb
  have HR := hd.below (hb.mono hB)
  have HL := Nat.le_trans hB hb.size
  have HR2 : RB ((w.alloc (.cells (StC kd p q a b c d A n k) 38)).alloc (.cells #[.int .i64 a, .int .i64 b, .int .i64 c, .int .i64 d] 72)) ((w.alloc (.cells (StC kd p q a b c d A n k) 38)).alloc (.cells #[.int .i64 a, .int .i64 b, .int .i64 c, .int .i64 d] 72)).heap.size A n xs := HR.more HL
  have HB := Lib.hid hb
  unfold stp
  obtain ⟨r, hr⟩ : ∃ r, kd.tmod 10 = r := ⟨_, rfl⟩
  by_cases h0 : r = 0
  · subst h0
    have g0 : (kd.tmod 10 == 0) = true := by simp [hr]
    rw [if_pos hr]
    have kk := Lib.hid (mkdir_any hW hK HA p (by omega) a b c d)
    clear hW hR hb hr HA HR HR2 hd
    go_enter Tryz.func13, Tryz.ntmps13
    go_wp2_with (go_at_call 44; refine kk.out.mono ?_; rintro e w1 ⟨rfl, h1⟩)
    go_ret
    exact Done.frame HB.out ⟨rfl, h1⟩
  by_cases h1 : r = 1
  · subst h1
    have g1 : (kd.tmod 10 == 1) = true := by simp [hr]
    have g0 : (kd.tmod 10 == 0) = false := by simp [hr]
    rw [if_neg (by rw [hr]; omega), if_pos hr]
    have kk := Lib.hid (create_any hW hK HA p (by omega) a b c d A n k xs HR2 hn)
    clear hW hR hb hr HA HR HR2 hd
    go_enter Tryz.func13, Tryz.ntmps13
    go_wp2_with (go_at_call 48; refine kk.out.mono ?_; rintro e w1 ⟨rfl, h1⟩)
    go_ret
    exact Done.frame HB.out ⟨rfl, h1⟩
  by_cases h2 : r = 2
  · subst h2
    have g2 : (kd.tmod 10 == 2) = true := by simp [hr]
    have g0 : (kd.tmod 10 == 0) = false := by simp [hr]
    have g1 : (kd.tmod 10 == 1) = false := by simp [hr]
    rw [if_neg (by rw [hr]; omega), if_neg (by rw [hr]; omega), if_pos hr]
    have kk := Lib.hid (sym_any hW hK HA p (by omega) a b c d q (by omega))
    clear hW hR hb hr HA HR HR2 hd
    go_enter Tryz.func13, Tryz.ntmps13
    go_wp2_with (go_at_call 59; refine kk.out.mono ?_; rintro e w1 ⟨rfl, h1⟩)
    go_ret
    exact Done.frame HB.out ⟨rfl, h1⟩
  by_cases h3 : r = 3
  · subst h3
    have g3 : (kd.tmod 10 == 3) = true := by simp [hr]
    have g0 : (kd.tmod 10 == 0) = false := by simp [hr]
    have g1 : (kd.tmod 10 == 1) = false := by simp [hr]
    have g2 : (kd.tmod 10 == 2) = false := by simp [hr]
    rw [if_neg (by rw [hr]; omega), if_neg (by rw [hr]; omega), if_neg (by rw [hr]; omega), if_pos hr]
    have kk := Lib.hid (link_any hW hK HA p q (by omega) (by omega))
    clear hW hR hb hr HA HR HR2 hd
    go_enter Tryz.func13, Tryz.ntmps13
    go_wp2_with (go_at_call 49; refine kk.out.mono ?_; rintro e w1 ⟨rfl, h1⟩)
    go_ret
    exact Done.frame HB.out ⟨rfl, h1⟩
  by_cases h4 : r = 4
  · subst h4
    have g4 : (kd.tmod 10 == 4) = true := by simp [hr]
    have g0 : (kd.tmod 10 == 0) = false := by simp [hr]
    have g1 : (kd.tmod 10 == 1) = false := by simp [hr]
    have g2 : (kd.tmod 10 == 2) = false := by simp [hr]
    have g3 : (kd.tmod 10 == 3) = false := by simp [hr]
    rw [if_neg (by rw [hr]; omega), if_neg (by rw [hr]; omega), if_neg (by rw [hr]; omega), if_neg (by rw [hr]; omega), if_pos hr]
    have kk := Lib.hid (write_any hW hK HA p (by omega) A n k xs B HR HL hBt hn)
    clear hW hR hb hr HA HR HR2 hd
    go_enter Tryz.func13, Tryz.ntmps13
    go_wp2_with (go_at_call 60; refine kk.out.mono ?_; rintro e w1 ⟨rfl, h1⟩)
    go_ret
    exact Done.frame HB.out ⟨rfl, h1⟩
  by_cases h5 : r = 5
  · subst h5
    have g5 : (kd.tmod 10 == 5) = true := by simp [hr]
    have g0 : (kd.tmod 10 == 0) = false := by simp [hr]
    have g1 : (kd.tmod 10 == 1) = false := by simp [hr]
    have g2 : (kd.tmod 10 == 2) = false := by simp [hr]
    have g3 : (kd.tmod 10 == 3) = false := by simp [hr]
    have g4 : (kd.tmod 10 == 4) = false := by simp [hr]
    rw [if_neg (by rw [hr]; omega), if_neg (by rw [hr]; omega), if_neg (by rw [hr]; omega), if_neg (by rw [hr]; omega), if_neg (by rw [hr]; omega), if_pos hr]
    have kk := Lib.hid (set_any hW hK HA p (by omega) a b c d)
    clear hW hR hb hr HA HR HR2 hd
    go_enter Tryz.func13, Tryz.ntmps13
    go_wp2_with (go_at_call 61; refine kk.out.mono ?_; rintro e w1 ⟨rfl, h1⟩)
    go_ret
    exact Done.frame HB.out ⟨rfl, h1⟩
  by_cases h6 : r = 6
  · subst h6
    have g6 : (kd.tmod 10 == 6) = true := by simp [hr]
    have g0 : (kd.tmod 10 == 0) = false := by simp [hr]
    have g1 : (kd.tmod 10 == 1) = false := by simp [hr]
    have g2 : (kd.tmod 10 == 2) = false := by simp [hr]
    have g3 : (kd.tmod 10 == 3) = false := by simp [hr]
    have g4 : (kd.tmod 10 == 4) = false := by simp [hr]
    have g5 : (kd.tmod 10 == 5) = false := by simp [hr]
    rw [if_neg (by rw [hr]; omega), if_neg (by rw [hr]; omega), if_neg (by rw [hr]; omega), if_neg (by rw [hr]; omega), if_neg (by rw [hr]; omega), if_neg (by rw [hr]; omega), if_pos hr]
    have kk := Lib.hid (remove_any hW hK HA p (by omega))
    clear hW hR hb hr HA HR HR2 hd
    go_enter Tryz.func13, Tryz.ntmps13
    go_wp2_with (go_at_call 51; refine kk.out.mono ?_; rintro e w1 ⟨rfl, h1⟩)
    go_ret
    exact Done.frame HB.out ⟨rfl, h1⟩
  by_cases h7 : r = 7
  · subst h7
    have g7 : (kd.tmod 10 == 7) = true := by simp [hr]
    have g0 : (kd.tmod 10 == 0) = false := by simp [hr]
    have g1 : (kd.tmod 10 == 1) = false := by simp [hr]
    have g2 : (kd.tmod 10 == 2) = false := by simp [hr]
    have g3 : (kd.tmod 10 == 3) = false := by simp [hr]
    have g4 : (kd.tmod 10 == 4) = false := by simp [hr]
    have g5 : (kd.tmod 10 == 5) = false := by simp [hr]
    have g6 : (kd.tmod 10 == 6) = false := by simp [hr]
    rw [if_neg (by rw [hr]; omega), if_neg (by rw [hr]; omega), if_neg (by rw [hr]; omega), if_neg (by rw [hr]; omega), if_neg (by rw [hr]; omega), if_neg (by rw [hr]; omega), if_neg (by rw [hr]; omega), if_pos hr]
    have kk := Lib.hid (clear_any hW hK HA p (by omega))
    clear hW hR hb hr HA HR HR2 hd
    go_enter Tryz.func13, Tryz.ntmps13
    go_wp2_with (go_at_call 62; refine kk.out.mono ?_; rintro e w1 ⟨rfl, h1⟩)
    go_ret
    exact Done.frame HB.out ⟨rfl, h1⟩
  have g0 : (kd.tmod 10 == 0) = false := by simp [hr, h0]
  have g1 : (kd.tmod 10 == 1) = false := by simp [hr, h1]
  have g2 : (kd.tmod 10 == 2) = false := by simp [hr, h2]
  have g3 : (kd.tmod 10 == 3) = false := by simp [hr, h3]
  have g4 : (kd.tmod 10 == 4) = false := by simp [hr, h4]
  have g5 : (kd.tmod 10 == 5) = false := by simp [hr, h5]
  have g6 : (kd.tmod 10 == 6) = false := by simp [hr, h6]
  have g7 : (kd.tmod 10 == 7) = false := by simp [hr, h7]
  rw [if_neg (by rw [hr]; omega), if_neg (by rw [hr]; omega), if_neg (by rw [hr]; omega), if_neg (by rw [hr]; omega), if_neg (by rw [hr]; omega), if_neg (by rw [hr]; omega), if_neg (by rw [hr]; omega), if_neg (by rw [hr]; omega)]
  have kk := Lib.hid (rename_any hW hK HA p q hp hq)
  clear hW hR hb hr HA HR HR2 hd
  go_enter Tryz.func13, Tryz.ntmps13
  go_wp2_with (go_at_call 42; refine kk.out.mono ?_; rintro e w1 ⟨rfl, h1⟩)
  go_ret
  exact Done.frame HB.out ⟨rfl, h1⟩
end Go.Proofs.YthgbncpiehcghaaGreatDoor
